/-
  The document's Rank.
-/
import Derived.Test.YthhommjlomphdabDoorPart05
import Derived.Test.YthhommjlomphdabDoorPart03
import Derived.RegionTactic
import Derived.BigRegion
namespace Go.Proofs.YthhommjlomphdabDoor
open Go.RowKit Go.Deep Gf

def FitG (D : List (List Nat)) : Prop := D.length ≤ 64 ∧ ∀ i (hi : i < D.length), (D[i]).length ≤ 64
/-- the greatest length of the first k rows -/
def wd (D : List (List Nat)) : Nat → Nat
  | 0 => 0
  | k + 1 => if wd D k < (D.getD k []).length then (D.getD k []).length else wd D k
theorem wd_le (D : List (List Nat)) (h : ∀ i, (D.getD i []).length ≤ 64) : ∀ k, wd D k ≤ 64 := by
  intro k
  induction k with
  | zero => exact Nat.zero_le _
  | succ k ih => unfold wd; split; exact h k; exact ih
theorem le_wd (D : List (List Nat)) (i : Nat) : ∀ k, i < k → (D.getD i []).length ≤ wd D k := by
  intro k
  induction k with
  | zero => intro h; omega
  | succ k ih =>
    intro h
    unfold wd
    by_cases e : i = k
    · subst e; split <;> omega
    · have := ih (by omega)
      split <;> omega
def pad (W : Nat) (l : List Nat) : List Nat := l ++ List.replicate (W - l.length) 0
theorem vec_pad (W : Nat) (l : List Nat) : vec (pad W l) = vec l := by
  funext j
  unfold vec pad
  by_cases hj : j < l.length
  · simp [List.getElem?_append_left hj, hj]
  · rw [List.getD_eq_getElem?_getD, List.getElem?_append_right (Nat.not_lt.1 hj)]
    by_cases h2 : j - l.length < W - l.length
    · simp [h2, List.getElem?_eq_none (Nat.not_lt.1 hj)]
    · simp [h2, List.getElem?_eq_none (Nat.not_lt.1 hj)]
theorem pad_len (W : Nat) (l : List Nat) (h : l.length ≤ W) : (pad W l).length = W := by simp [pad]; omega
theorem pad_lt (W : Nat) (l : List Nat) (h : ∀ x ∈ l, x < 256) : ∀ x ∈ pad W l, x < 256 := by
  intro x hx
  rcases List.mem_append.1 hx with q | q
  · exact h x q
  · have := List.eq_of_mem_replicate q; omega
/-- the state of the working off -/
structure EI (w : World) (B W c r : Nat) (v : Value) (D : List (List Nat)) (T : List (Nat × Nat × List Nat)) (wr : World) : Prop where
  tab : Tab wr B v T
  wid : ∀ i (hi : i < T.length), T[i].2.1 = W ∧ T[i].2.2.length = W
  rle : r ≤ T.length
  len : T.length = D.length
  zer : ∀ i (hi : i < T.length), r ≤ i → ∀ j, j < c → vec T[i].2.2 j = 0
  tak : ∀ k, Taken (64 - c) (Rem (T.map (fun p => p.2.2)) r) c k → RankIs D (r + k)
  bel : Below B w wr
  siz : B ≤ wr.heap.size
theorem EI.skip {w wr : World} {B W c r : Nat} {v : Value} {D : List (List Nat)} {T : List (Nat × Nat × List Nat)} (h : EI w B W c r v D T wr) (hc : c < 64) (hz : ∀ i (hi : i < T.length), r ≤ i → vec T[i].2.2 c = 0) : EI w B W (c + 1) r v D T wr :=
  { h with
    zer := fun i hi hr j hj => by
      by_cases e : j = c
      · subst e; exact hz i hi hr
      · exact h.zer i hi hr j (by omega)
    tak := fun k hk => by
      refine h.tak k ?_
      have e : 64 - c = 64 - (c + 1) + 1 := by omega
      rw [e]
      refine taken_skip (fun i hi hr => ?_) hk
      rw [List.getElem_map]
      exact hz i (by simpa using hi) hr }
theorem EI.pivot {w wr wr' : World} {B W c r p : Nat} {v : Value} {D : List (List Nat)} {T T' : List (Nat × Nat × List Nat)} (h : EI w B W c r v D T wr) (hc : c < 64) (hrp : r ≤ p) (hp : p < T.length) (hpc : vec T[p].2.2 c ≠ 0)
    (hT' : Tab wr' B v T') (hl : T'.length = T.length) (hw' : ∀ i (hi : i < T'.length), T'[i].2.1 = W ∧ T'[i].2.2.length = W)
    (hrest : ∀ i (hi : i < T'.length), r < i → ∃ f, ∃ h : (if i = p then r else i) < T.length, f < 256 ∧ vec T'[i].2.2 = addV (vec T[if i = p then r else i].2.2) f (vec T[p].2.2) ∧ vec T'[i].2.2 c = 0)
    (hb : Below B w wr') (hs : B ≤ wr'.heap.size) : EI w B W (c + 1) (r + 1) v D T' wr' where
  tab := hT'
  wid := hw'
  rle := by omega
  len := by rw [hl]; exact h.len
  zer := fun i hi hr j hj => by
    obtain ⟨f, h1, hf, e, hz⟩ := hrest i hi (by omega)
    by_cases ej : j = c
    · subst ej; exact hz
    · rw [e]
      have z1 := h.zer _ h1 (by split <;> omega) j (by omega)
      have z2 := h.zer p hp hrp j (by omega)
      show vec T[if i = p then r else i].2.2 j ^^^ gm f (vec T[p].2.2 j) = 0
      rw [z1, z2, gm_zero]
      exact Nat.xor_self 0
  tak := fun k hk => by
    have e : r + 1 + k = r + (k + 1) := by omega
    rw [e]
    refine h.tak (k + 1) ?_
    have e : 64 - c = 64 - (c + 1) + 1 := by omega
    rw [e]
    refine taken_pivot (p := p) (T' := T'.map (fun p => p.2.2)) ?_ ?_ (by simpa using hl) hrp (by simpa using hp) (by rw [List.getElem_map]; exact hpc) ?_ hk
    · intro l hl'
      obtain ⟨q, hq, rfl⟩ := List.mem_map.1 hl'
      exact (h.tab.row q hq).2.2.2.2
    · intro l hl'
      obtain ⟨q, hq, rfl⟩ := List.mem_map.1 hl'
      exact (hT'.row q hq).2.2.2.2
    · intro i hi hr
      obtain ⟨f, h1, hf, e, hz⟩ := hrest i (by simpa using hi) hr
      exact ⟨f, by simpa using h1, hf, by simp only [List.getElem_map]; exact e, by simp only [List.getElem_map]; exact hz⟩
  bel := hb
  siz := hs
theorem EI.start {w wr : World} {W : Nat} {v : Value} {D : List (List Nat)} {T : List (Nat × Nat × List Nat)} (hT : Tab wr w.heap.size v T) (hH : T.map (fun p => p.2) = D.map (fun l => (W, pad W l))) (hW : ∀ i (hi : i < D.length), (D[i]).length ≤ W) (hb : Below w.heap.size w wr) (hs : w.heap.size ≤ wr.heap.size) : EI w w.heap.size W 0 0 v D T wr := by
  have hl : T.length = D.length := by simpa using congrArg List.length hH
  have hat : ∀ i (h1 : i < T.length) (h2 : i < D.length), T[i].2 = (W, pad W D[i]) := by
    intro i h1 h2
    have := List.getElem_of_eq hH (i := i) (by simpa using h1)
    simpa using this
  refine ⟨hT, fun i hi => ?_, Nat.zero_le _, hl, fun _ _ _ j hj => absurd hj (Nat.not_lt_zero _), fun k hk => ?_, hb, hs⟩
  · rw [hat i hi (by omega)]
    exact ⟨rfl, pad_len W _ (hW i (by omega))⟩
  · rw [Nat.zero_add]
    have e : Rem (T.map (fun p => p.2.2)) 0 = Rem D 0 := rem_congr (by simpa using hl) (fun i h1 h2 => by
      rw [List.getElem_map]
      have := hat i (by simpa using h1) h2
      rw [this]
      exact vec_pad W _) 0
    rw [e] at hk
    exact hk
theorem EI.done {w wr : World} {B W c r : Nat} {v : Value} {D : List (List Nat)} {T : List (Nat × Nat × List Nat)} (h : EI w B W c r v D T wr) (hc : W ≤ c) : RankIs D r :=
  h.tak 0 (taken_done (fun l hl => by
    obtain ⟨q, hq, rfl⟩ := List.mem_map.1 hl
    obtain ⟨i, hi, rfl⟩ := List.mem_iff_getElem.1 hq
    rw [(h.wid i hi).2]; exact hc))
/-- the columns -/
def RC (w : World) (W : Nat) (v : Value) (D : List (List Nat)) (rv cv : Value) (wr : World) : Prop :=
  ∃ (r c : Nat) (T : List (Nat × Nat × List Nat)), c ≤ W ∧ rv = .int .i64 (r : Nat) ∧ cv = .int .i64 (c : Nat) ∧ EI w w.heap.size W c r v D T wr
/-- which row is taken -/
def RP (T : List (Nat × Nat × List Nat)) (r c : Nat) (av iv : Value) : Prop :=
  ∃ k : Nat, r ≤ k ∧ k ≤ T.length ∧ iv = .int .i64 (k : Nat) ∧ ((av = .int .i64 (-1) ∧ ∀ i (hi : i < T.length), r ≤ i → i < k → vec T[i].2.2 c = 0) ∨ ∃ p : Nat, ∃ hp : p < T.length, r ≤ p ∧ av = .int .i64 (p : Nat) ∧ vec T[p].2.2 c ≠ 0)
/-- the rows below -/
structure EW (w : World) (B W c r k : Nat) (v : Value) (S : List (Nat × Nat × List Nat)) (lp : List Nat) (T : List (Nat × Nat × List Nat)) (wr : World) : Prop where
  tab : Tab wr B v T
  len : T.length = S.length
  wid : ∀ i (hi : i < T.length), T[i].2.1 = W ∧ T[i].2.2.length = W
  old : ∀ i (hi : i < T.length) (hi' : i < S.length), i ≤ r ∨ k ≤ i → T[i] = S[i]
  new : ∀ i (hi : i < T.length) (hi' : i < S.length), r < i → i < k → ∃ f, f < 256 ∧ vec T[i].2.2 = addV (vec S[i].2.2) f (vec lp) ∧ vec T[i].2.2 c = 0
  bel : Below B w wr
  siz : B ≤ wr.heap.size
def RW (w : World) (B W c r : Nat) (v : Value) (S : List (Nat × Nat × List Nat)) (lp : List Nat) (iv : Value) (wr : World) : Prop :=
  ∃ (k : Nat) (T : List (Nat × Nat × List Nat)), r < k ∧ k ≤ S.length ∧ iv = .int .i64 (k : Nat) ∧ EW w B W c r k v S lp T wr
theorem EW.step {w wr wr' : World} {B W c r k : Nat} {v : Value} {S T : List (Nat × Nat × List Nat)} {lp l' : List Nat} {f : Nat} (h : EW w B W c r k v S lp T wr) (hr : r < k) (hk : k < T.length) (hg : wr.grownBy wr' (some T[k].1)) (hB : Brow wr' T[k].1 l') (hlen : l'.length = W) (hx : ∀ x ∈ l', x < 256)
    (hf : f < 256) (he : vec l' = addV (vec T[k].2.2) f (vec lp)) (hc : vec l' c = 0) : EW w B W c r (k + 1) v S lp (T.set k (T[k].1, T[k].2.1, l')) wr' := by
  have hm := h.tab.row _ (List.getElem_mem hk)
  refine ⟨h.tab.wrote hk hg hB (by rw [hlen, (h.wid k hk).2]) hx, by rw [List.length_set]; exact h.len, fun i hi => ?_, fun i hi hi' ho => ?_, fun i hi hi' h1 h2 => ?_, grown_below h.bel hg h.siz hm.1, Nat.le_trans h.siz hg.size⟩
  · rw [List.length_set] at hi
    rw [List.getElem_set]
    by_cases e : k = i
    · rw [if_pos e]; exact ⟨(h.wid k hk).1, hlen⟩
    · rw [if_neg e]; exact h.wid i hi
  · rw [List.length_set] at hi
    rw [List.getElem_set, if_neg (by omega)]
    exact h.old i hi hi' (by omega)
  · rw [List.length_set] at hi
    rw [List.getElem_set]
    by_cases e : k = i
    · subst e
      rw [if_pos rfl]
      refine ⟨f, hf, ?_, hc⟩
      rw [← h.old k hi hi' (.inr (Nat.le_refl _))]
      exact he
    · rw [if_neg e]; exact h.new i hi hi' h1 (by omega)
theorem EW.keep {w wr : World} {B W c r k : Nat} {v : Value} {S T : List (Nat × Nat × List Nat)} {lp : List Nat} (h : EW w B W c r k v S lp T wr) (hk : k < T.length) (hc : vec T[k].2.2 c = 0) : EW w B W c r (k + 1) v S lp T wr :=
  { h with
    old := fun i hi hi' ho => h.old i hi hi' (by omega)
    new := fun i hi hi' h1 h2 => by
      by_cases e : i = k
      · subst e
        refine ⟨0, by decide, ?_, hc⟩
        rw [addV_zero, h.old i hi hi' (.inr (Nat.le_refl _))]
      · exact h.new i hi hi' h1 (by omega) }
theorem Tab.ne {w : World} {B : Nat} {v : Value} {T : List (Nat × Nat × List Nat)} (h : Tab w B v T) {i j : Nat} (hi : i < T.length) (hj : j < T.length) (hij : i ≠ j) : T[i].1 ≠ T[j].1 := by
  have hnd := List.pairwise_iff_getElem.1 h.nodup
  intro e
  rcases Nat.lt_or_gt_of_ne hij with h' | h'
  · exact hnd i j (by simpa using hi) (by simpa using hj) h' (by simpa using e)
  · exact hnd j i (by simpa using hj) (by simpa using hi) h' (by simpa using e.symm)
theorem Tab.head {w : World} {B W g n cap : Nat} {T : List (Nat × Nat × List Nat)} (h : Tab w B (.slice (some ⟨g, 0, none⟩) n cap) T) (hw : ∀ i (hi : i < T.length), T[i].2.1 = W ∧ T[i].2.2.length = W) {i : Nat} (hi : i < T.length) : w.cell? ⟨g, i, none⟩ = some (.slice (some ⟨T[i].1, 0, none⟩) W W) := by
  have := h.cell_at hi
  unfold hdr at this
  rw [(hw i hi).1, (hw i hi).2] at this
  exact this
theorem Tab.byte {w : World} {B W c : Nat} {v : Value} {T : List (Nat × Nat × List Nat)} (h : Tab w B v T) (hw : ∀ i (hi : i < T.length), T[i].2.1 = W ∧ T[i].2.2.length = W) {i : Nat} (hi : i < T.length) (hc : c < W) : w.cell? ⟨T[i].1, c, none⟩ = some (.int .u8 ((vec T[i].2.2 c : Nat) : Int)) ∧ vec T[i].2.2 c < 256 :=
  ⟨(h.row _ (List.getElem_mem hi)).2.1.cell c (by rw [(hw i hi).2]; exact hc), getD_lt (h.row _ (List.getElem_mem hi)).2.2.2.2 c⟩
theorem EI.cells {w wr : World} {B W c r g n cap : Nat} {D : List (List Nat)} {T : List (Nat × Nat × List Nat)} (h : EI w B W c r (.slice (some ⟨g, 0, none⟩) n cap) D T wr) (hc : c < W) (i : Nat) (hi : i < T.length) :
    wr.cell? ⟨g, i, none⟩ = some (.slice (some ⟨T[i].1, 0, none⟩) W W) ∧ wr.cell? ⟨T[i].1, c, none⟩ = some (.int .u8 ((vec T[i].2.2 c : Nat) : Int)) ∧ vec T[i].2.2 c < 256 :=
  ⟨h.tab.head h.wid hi, h.tab.byte h.wid hi hc⟩
theorem EI.swap {w wr : World} {B W c r p g n cap : Nat} {D : List (List Nat)} {T : List (Nat × Nat × List Nat)} (h : EI w B W c r (.slice (some ⟨g, 0, none⟩) n cap) D T wr) (hB : B ≤ g) (hr : r < T.length) (hp : p < T.length) :
    EW w B W c r (r + 1) (.slice (some ⟨g, 0, none⟩) n cap) (swp T p r) T[p].2.2 (swp T p r) ((wr.setCell ⟨g, p, none⟩ (.slice (some ⟨T[r].1, 0, none⟩) W W)).setCell ⟨g, r, none⟩ (.slice (some ⟨T[p].1, 0, none⟩) W W)) := by
  have e1 : hdr T[r] = .slice (some ⟨T[r].1, 0, none⟩) W W := by unfold hdr; rw [(h.wid r hr).1, (h.wid r hr).2]
  have e2 : hdr T[p] = .slice (some ⟨T[p].1, 0, none⟩) W W := by unfold hdr; rw [(h.wid p hp).1, (h.wid p hp).2]
  have hs := h.tab.swap hp hr
  rw [e1, e2] at hs
  refine ⟨hs, rfl, fun i hi => ?_, fun _ _ _ _ => rfl, fun i _ _ h1 h2 => absurd h1 (by omega), ?_, ?_⟩
  · obtain ⟨j, hj, e⟩ := List.mem_iff_getElem.1 (swp_mem T p r hp hr _ (List.getElem_mem hi))
    rw [← e]; exact h.wid j hj
  · exact (h.bel.setCell (p := ⟨g, p, none⟩) hB _).setCell (p := ⟨g, r, none⟩) hB _
  · rw [nblk_setCell, nblk_setCell]; exact h.siz
theorem EI.worked {w wr wr' : World} {B W c r p k : Nat} {v : Value} {D : List (List Nat)} {T T' : List (Nat × Nat × List Nat)} (h : EI w B W c r v D T wr) (hc : c < 64) (hrp : r ≤ p) (hp : p < T.length) (hpc : vec T[p].2.2 c ≠ 0)
    (h' : EW w B W c r k v (swp T p r) T[p].2.2 T' wr') (hk : T.length ≤ k) : EI w B W (c + 1) (r + 1) v D T' wr' := by
  have hr : r < T.length := by omega
  have hl : T'.length = T.length := by rw [h'.len, swp_len]
  refine h.pivot hc hrp hp hpc h'.tab hl h'.wid (fun i hi hri => ?_) h'.bel h'.siz
  obtain ⟨f, hf, e, hz⟩ := h'.new i hi (by rw [swp_len]; omega) hri (by omega)
  have h1 : (if i = p then r else i) < T.length := by split <;> omega
  refine ⟨f, h1, hf, ?_, hz⟩
  rw [e]
  have hi' : i < T.length := by omega
  have e2 : (swp T p r)[i]'(by rw [swp_len]; omega) = T[if i = p then r else i] := by
    rw [swp_get T p r i hp hr hi', if_neg (by omega)]
    by_cases e3 : i = p
    · simp only [if_pos e3]
    · simp only [if_neg e3]
  rw [e2]
/-- the row that is taken lies at r -/
theorem EW.top {w wr : World} {B W c r p k : Nat} {v : Value} {T T' : List (Nat × Nat × List Nat)} (hr : r < T.length) (hp : p < T.length) (h : EW w B W c r k v (swp T p r) T[p].2.2 T' wr) : ∃ hr' : r < T'.length, T'[r] = T[p] := by
  have hl : T'.length = T.length := by rw [h.len, swp_len]
  refine ⟨by omega, ?_⟩
  rw [h.old r (by omega) (by rw [swp_len]; exact hr) (.inl (Nat.le_refl _)), swp_get T p r r hp hr hr, if_pos rfl]
theorem rmul_eq2 {x y z : Int} (a b : Nat) (hx : x = (a : Int)) (hy : y = (b : Int)) (ha : a < 256) (hb : b < 256) (hz : ((gm a b : Nat) : Int) = z) (w : World) :
    Calls Tryd.prog 34 #[.int .u8 x, .int .u8 y] w fun e w' => e = .returned (.int .u8 z) ∧ w' = w := by
  subst hx hy hz; exact rmul_any a b ha hb w
theorem rinv_eq2 {x : Int} (a : Nat) (hx : x = (a : Int)) (ha : a < 256) (w : World) :
    Calls Tryd.prog 23 #[.int .u8 x] w fun e w' => e = .returned (.int .u8 ((gi a : Nat) : Int)) ∧ w' = w := by
  subst hx; exact rinv_any a ha w
/-- one row -/
def RJ (wi : World) (b : Nat) (l lp : List Nat) (f c W : Nat) (jv : Value) (wr : World) : Prop :=
  ∃ j : Nat, c ≤ j ∧ j ≤ W ∧ jv = .int .i64 (j : Nat) ∧ wi.grownBy wr (some b) ∧ Brow wr b (adTo l lp f c j)
def RkPost (D : List (List Nat)) (w : World) (e : Ending) (w' : World) : Prop := (FitG D → ∃ k : Nat, k ≤ 64 ∧ e = .returned (.int .i64 k) ∧ RankIs D k) ∧ (¬ FitG D → e = .returned (.int .i64 (-1))) ∧ Below w.heap.size w w'
def RR1 (D : List (List Nat)) (wv i : Value) : Prop := ∃ k : Nat, k ≤ D.length ∧ wv = .int .i64 (wd D k : Nat) ∧ i = .int .i64 k ∧ wd D k ≤ 64 ∧ ∀ j (hj : j < D.length), j < k → (D[j]).length ≤ 64
def RR2 (w : World) (W : Nat) (D : List (List Nat)) (v i : Value) (wr : World) : Prop :=
  ∃ k T, k ≤ D.length ∧ i = .int .i64 (k : Nat) ∧ Tab wr w.heap.size v T ∧ T.map (fun p => p.2) = (D.take k).map (fun l => (W, pad W l)) ∧ Below w.heap.size w wr ∧ w.heap.size ≤ wr.heap.size
set_option maxRecDepth 100000 in
set_option maxHeartbeats 8000000 in
theorem rrank_any (vd : Value) (D : List (List Nat)) (w : World) (hd : Rd w vd D) :
    Calls Tryd.prog 21 #[vd] w fun e w' => RkPost D w e w' := by
  obtain ⟨i0, hi0, hz0, hz1, hz2⟩ := info_parts Tryd.infoBytes
  by_cases h64 : 64 < D.length
  · obtain ⟨ao, c, rfl, hl, _⟩ := hd
    go_enter Tryd.func21, Tryd.ntmps21
    go_wp2
    go_ret
    exact ⟨fun h => absurd h.1 (by omega), fun _ => rfl, Below.refl _ _⟩
  by_cases hD0 : D = []
  · subst hD0
    obtain ⟨ao, c, rfl, _⟩ := hd
    go_enter Tryd.func21, Tryd.ntmps21
    go_wp2
    refine wp_loop_rounds 1 ?_
    rw [rounds_succ]
    go_wp2
    refine wp_loop_rounds 1 ?_
    rw [rounds_succ]
    go_wp2
    refine wp_loop_rounds 1 ?_
    rw [rounds_succ]
    go_wp2
    go_ret
    exact ⟨fun _ => ⟨0, by omega, rfl, taken_done (T := []) (fun l hl => by simp at hl)⟩, fun h => absurd ⟨by simp, fun i hi => by simp at hi⟩ h, Below.refl _ _⟩
  have HD0 := hide hD0
  have hcs := hd.cases
  rcases hcs with ⟨h0, _⟩ | ⟨b, off, c, rfl, hl, hc⟩
  · exact absurd h0 hD0
  clear hD0
  have hgd : ∀ i (hi : i < D.length), D.getD i [] = D[i] := fun i hi => by simp [hi]
  have HC := hide hc
  have HGD := hide hgd
  clear hc hgd
  go_enter Tryd.func21, Tryd.ntmps21
  go_wp2
  go_loop [3, 4] (fun wv i => RR1 D wv i) (fun _ i => D.length - (intOf i).toNat)
  case atStart => exact ⟨0, Nat.zero_le _, rfl, rfl, Nat.zero_le _, fun j _ h => absurd h (by omega)⟩
  case round =>
    obtain ⟨k, hk, rfl, rfl, hw64, hok⟩ := hrel
    by_cases hlt : k < D.length
    · obtain ⟨u, hu, hBs⟩ := HC.out k hlt
      obtain ⟨fo, fc, rfl, q1, q2, q3, q4⟩ := hBs
      have hlk : (D[k]).length ≤ 140737488355328 := by omega
      have hwd : wd D (k + 1) = if wd D k < (D[k]).length then (D[k]).length else wd D k := by rw [← HGD.out k hlt]; rfl
      have HWD := hide hwd
      by_cases h1 : (D[k]).length ≤ 64
      · have HOK : Hid (∀ j (hj : j < D.length), j < k + 1 → (D[j]).length ≤ 64) := by
          intro j hj hjk
          by_cases e : j = k
          · subst e; exact h1
          · exact hok j hj (by omega)
        clear hwd hok q1 q2 q3 q4
        generalize (D[k]).length = lk at *
        by_cases h2 : wd D k < lk
        · have HW2 : Hid (wd D (k + 1) = lk) := by rw [HWD.out, if_pos h2]; exact (rfl : lk = lk)
          clear HWD
          go_wp2
          go_round
          case rel => exact ⟨k + 1, by omega, by rw [HW2.out], by go_num, by rw [HW2.out]; omega, HOK.out⟩
          case measure => simp [intOf]; omega
        · have HW2 : Hid (wd D (k + 1) = wd D k) := by rw [HWD.out, if_neg h2]; exact (rfl : wd D k = wd D k)
          clear HWD
          go_wp2
          go_round
          case rel => exact ⟨k + 1, by omega, by rw [HW2.out], by go_num, by rw [HW2.out]; omega, HOK.out⟩
          case measure => simp [intOf]; omega
      · have HN : Hid (¬ FitG D) := fun h => h1 (h.2 k hlt)
        clear hwd hok q1 q2 q3 q4
        generalize (D[k]).length = lk at *
        go_wp2
        go_ret
        exact ⟨fun h => absurd h HN.out, fun _ => rfl, Below.refl _ _⟩
    · have hkk : k = D.length := by omega
      have hfit : FitG D := ⟨by omega, fun i hi => hok i hi (by omega)⟩
      have hWl : ∀ i (hi : i < D.length), (D[i]).length ≤ wd D k := fun i hi => by
        have := le_wd D i k (by omega)
        rw [HGD.out i hi] at this
        exact this
      generalize wd D k = W at *
      have HFT := hide hfit
      have HWL := hide hWl
      clear hok hkk hfit hWl
      go_wp2
      go_loopw [5, 6] (fun v i wr => RR2 w W D v i wr) (fun _ i _ => D.length - (intOf i).toNat)
      case atStart => exact ⟨0, [], Nat.zero_le _, rfl, Tab.nil _ _, rfl, Below.refl _ _, Nat.le_refl _⟩
      case round =>
        rename World => wo
        obtain ⟨k2, T, hk2, rfl, hT, hH, hbo, hso⟩ := hrel
        have hTl : T.length = min k2 D.length := by simpa using congrArg List.length hH
        by_cases hlt2 : k2 < D.length
        · obtain ⟨u, hu, hBs⟩ := HC.out k2 hlt2
          have hBo := hBs.mono hbo
          have hlk := HWL.out k2 hlt2
          have hx := hBs.lt
          have hTs := List.take_succ_eq_append_getElem hlt2
          obtain ⟨fo, fc, rfl, q1, q2, q3, q4⟩ := hBs
          have hu' : wo.cell? ⟨b, off + k2, none⟩ = some (.slice fo (D[k2]).length fc) := by rw [hbo.cell (block_lt_of_cell hu)]; exact hu
          have hTl2 : T.length ≤ 64 := by omega
          have HH := hide hH
          have HTS := hide hTs
          clear hH hTl hu q1 q2 q3 q4 hTs
          generalize D[k2] = l at *
          go_wp2_with (first
            | (at_make; refine wpList_mk _ rfl (.tmp 51) (.tmp 51) rfl _ W rfl rfl rfl (by omega) ?_; intro w1 hB hb1 hz; clear hz; have hu2 := hu'; rw [← hb1.cell (block_lt_of_cell hu')] at hu2)
            | (refine wpList_cp rfl (.tmp 53) (.tmp 57) rfl wo.heap.size W W _ rfl rfl _ l hB (hBo.mono hb1) hlk (by simp) wo.heap.size wo hb1 (Nat.le_refl _) ?_; intro w2 hB2 hb2)
            | (at_builtin; refine wpList_append_own _ rfl (.tmp 59) (.tmp 61) 51 rfl w.heap.size 59 i0 (.slice none 0 0) 1 24 Tryd.underlying51 hi0 hz0 hz1 hz2 rfl (by decide) _ T.length (T.map hdr) rfl ((hT.below hb2).alloc _).own ⟨w2.heap.size, 0, none⟩ 1 1 [.slice (some ⟨wo.heap.size, 0, none⟩) W W] rfl rfl (one_new _ _ rfl _ _) (by simp [Value.oneCell']) (by unfold maxLen; omega) (by omega) (by rw [nblk_alloc]; have := hb2.size; omega) ?_; intro v' w3 hown' hgrow hnn))
          have hB3 : Brow w2 wo.heap.size (pad W l) := by
            have e : l ++ (List.replicate W 0).drop l.length = pad W l := by rw [List.drop_replicate]; rfl
            rw [e] at hB2; exact hB2
          have hT3 := Tab.append2 hT hb2 hso (Nat.le_refl _) hB3 (pad_len W l hlk).symm (by rw [pad_len W l hlk]; omega) (by rw [pad_len W l hlk]; omega) (pad_lt W l hx) hgrow hown'
          have hb3 := below_append hT hbo hb2 hso hgrow
          have hs3 := hgrow.size
          have hs2 := hb2.size
          rw [nblk_alloc] at hs3
          have HH3 : Hid ((T ++ [(wo.heap.size, W, pad W l)]).map (fun p => p.2) = (D.take (k2 + 1)).map (fun l => (W, pad W l))) := by
            rw [HTS.out, List.map_append, List.map_append, HH.out]; exact (rfl : _ = _)
          clear hT hown' hgrow hnn hB hB2 hB3 hb1 hb2 hbo hBo hu' hu2 hx
          go_wp2
          go_roundw
          case rel => exact ⟨k2 + 1, _, by omega, by go_num, hT3, HH3.out, hb3, by omega⟩
          case measure => simp [intOf]; omega
        · have hkD : k2 = D.length := by omega
          rw [hkD, List.take_length] at hH
          have hE := EI.start hT hH HWL.out hbo hso
          have hTl3 : T.length = D.length := by simpa using congrArg List.length hH
          rcases hT.shape with ⟨rfl, h0⟩ | ⟨g, cap, hv, hg0, hg1, hg2, hg3, _⟩
          · exact absurd (List.eq_nil_of_length_eq_zero (by rw [← hTl3, h0]; rfl)) HD0.out
          rw [hTl3] at hv
          subst hv
          clear hT hH hbo hso hg1 hg2 hg3 hTl hTl3 hkD
          go_wp2
          go_loopw [8, 9] (fun rv cv wr => RC w W (.slice (some ⟨g, 0, none⟩) D.length cap) D rv cv wr) (fun _ cv _ => W - (intOf cv).toNat)
          case atStart => exact ⟨0, 0, T, Nat.zero_le _, rfl, rfl, hE⟩
          case round =>
            clear hE
            rename World => wo2
            obtain ⟨r, c2, T2, hcW, rfl, rfl, hE⟩ := hrel
            have hlen2 := hE.len
            have hrl := hE.rle
            by_cases hcl : c2 < W
            · have HE := hide hE
              have HCL := hide (EI.cells hE hcl)
              clear hE
              go_wp2
              go_loop [10, 11] (fun av iv => RP T2 r c2 av iv) (fun _ iv => T2.length - (intOf iv).toNat)
              case atStart => exact ⟨r, Nat.le_refl _, hrl, rfl, .inl ⟨rfl, fun i hi h1 h2 => absurd h1 (by omega)⟩⟩
              case round =>
                obtain ⟨k3, hrk, hkT, rfl, hor⟩ := hrel
                by_cases hkl : k3 < T2.length
                · obtain ⟨q1, q2, q3⟩ := HCL.out k3 hkl
                  have HOR := hide hor
                  clear hor
                  have hz0 : vec T2[k3].2.2 c2 = vec T2[k3].2.2 c2 := rfl
                  have HZ := hide hz0
                  clear hz0
                  by_cases hz : vec T2[k3].2.2 c2 = 0
                  · have HZ := hide hz
                    rw [hz] at q2
                    clear hz q3
                    go_wp2
                    go_round
                    case rel =>
                      refine ⟨k3 + 1, by omega, by omega, by go_num, ?_⟩
                      rcases HOR.out with ⟨e, h1⟩ | ⟨p, hp, h1, h2, h3⟩
                      · refine .inl ⟨e, fun i hi a1 a2 => ?_⟩
                        by_cases e : i = k3
                        · subst e; exact HZ.out
                        · exact h1 i hi a1 (by omega)
                      · exact .inr ⟨p, hp, h1, h2, h3⟩
                    case measure => simp [intOf]; omega
                  · have hcx : (((vec T2[k3].2.2 c2 : Nat) : Int) != 0) = true := by rw [bne_iff_ne]; omega
                    have HZ := hide hz
                    clear hz q3
                    go_wp2
                    go_round
                    case rel => exact ⟨k3 + 1, by omega, by omega, by go_num, .inr ⟨k3, hkl, hrk, by go_num, HZ.out⟩⟩
                    case measure => simp [intOf]; omega
                · rcases hor with ⟨rfl, hz⟩ | ⟨p, hp, hrp, rfl, hpc⟩
                  · have HE2 := hide (HE.out.skip (by omega) (fun i hi hr => hz i hi hr (by omega)))
                    clear hz
                    go_wp2
                    go_roundw
                    case rel => exact ⟨r, c2 + 1, T2, by omega, rfl, by go_num, HE2.out⟩
                    case measure => simp [intOf]; omega
                  · obtain ⟨p1, p2, p3⟩ := HCL.out p hp
                    have hrT : r < T2.length := by omega
                    obtain ⟨r1, _, _⟩ := HCL.out r hrT
                    have hS := HE.out.swap hg0 hrT hp
                    have hown := HE.out.tab.own
                    rw [HE.out.len] at hown
                    have f1 := hown.frozenAt p
                    have f2 : (wo2.setCell ⟨g, p, none⟩ (.slice (some ⟨T2[r].1, 0, none⟩) W W)).frozen? ⟨g, r, none⟩ = false := (World.frozen?_setCell _ _ _ _).trans (hown.frozenAt r)
                    have c1 : (wo2.setCell ⟨g, p, none⟩ (.slice (some ⟨T2[r].1, 0, none⟩) W W)).cell? ⟨g, r, none⟩ = some (.slice (some ⟨T2[r].1, 0, none⟩) W W) := by
                      by_cases e : p = r
                      · subst e; exact World.cell?_setCell_same _ _ _ r1
                      · rw [World.cell?_setCell_other _ _ _ _ (by intro h; injection h with h1 h2; exact e h2)]; exact r1
                    obtain ⟨ht1, ht2⟩ := EW.top hrT hp hS
                    have hb1 := (hS.tab.byte hS.wid ht1 hcl).1
                    rw [ht2] at hb1
                    have hSl : (swp T2 p r).length = T2.length := swp_len T2 p r
                    have hlz : ∀ q, q < c2 → vec T2[p].2.2 q = 0 := fun q hq => HE.out.zer p hp hrp q hq
                    have HLZ := hide hlz
                    have HEW := hide (fun (k : Nat) (T' : List (Nat × Nat × List Nat)) (wr' : World) (h' : EW w w.heap.size W c2 r k (.slice (some ⟨g, 0, none⟩) D.length cap) (swp T2 p r) T2[p].2.2 T' wr') (hk : T2.length ≤ k) => HE.out.worked (by omega) hrp hp hpc h' hk)
                    have HTOP := hide (fun (k : Nat) (T' : List (Nat × Nat × List Nat)) (wr' : World) (h' : EW w w.heap.size W c2 r k (.slice (some ⟨g, 0, none⟩) D.length cap) (swp T2 p r) T2[p].2.2 T' wr') => EW.top hrT hp h')
                    have HLP := hide (HE.out.wid p hp).2
                    have HPC := hide hpc
                    have HS := hide hS
                    clear hown ht2 hlz hpc hS HCL HE
                    generalize swp T2 p r = S at *
                    generalize T2[p] = tp at *
                    generalize T2[r].1 = br at *
                    generalize hyy : vec tp.2.2 c2 = y at *
                    generalize hbb : tp.1 = bp at *
                    have HYY := hide hyy
                    have HBB := hide hbb
                    clear hyy hbb
                    go_wp2_with (go_at_call 23; refine (rinv_eq2 y rfl p3 _).mono ?_; rintro e w' ⟨rfl, rfl⟩)
                    go_loopw [14] (fun iv wr => RW w w.heap.size W c2 r (.slice (some ⟨g, 0, none⟩) D.length cap) S tp.2.2 iv wr) (fun iv _ => S.length - (intOf iv).toNat)
                    case atStart => exact ⟨r + 1, S, by omega, by omega, by go_num, HS.out⟩
                    case round =>
                      clear p1 p2 r1 f1 f2 c1 hb1 HS
                      rename World => wm
                      obtain ⟨k4, T3, hrk4, hkS, rfl, hW⟩ := hrel
                      have hl3 : T3.length = T2.length := by rw [hW.len]; exact hSl
                      by_cases hk4 : k4 < T2.length
                      · have hkT3 : k4 < T3.length := by omega
                        have hh := hW.tab.head hW.wid hkT3
                        obtain ⟨hx1, hx2⟩ := hW.tab.byte hW.wid hkT3 hcl
                        have hrow := hW.tab.row _ (List.getElem_mem hkT3)
                        have hgb := own_ne hW.tab.own hrow.2.1
                        have hll := (hW.wid k4 hkT3).2
                        obtain ⟨ht3, htop⟩ := HTOP.out k4 T3 wm hW
                        have hne := hW.tab.ne ht3 hkT3 (by omega)
                        have hrt := hW.tab.row _ (List.getElem_mem ht3)
                        rw [htop] at hrt hne
                        rw [HBB.out] at hrt hne
                        have HBT := hide hrt.2.1
                        have HLB := hide hrt.2.2.2.2
                        have HBK := hide hrow.2.1
                        have HXB := hide hrow.2.2.2.2
                        have HKEEP := hide (fun hz => hW.keep hkT3 hz)
                        have HST : Hid (∀ (f : Nat) (l' : List Nat) (wr' : World), f < 256 → wm.grownBy wr' (some T3[k4].1) → Brow wr' T3[k4].1 l' → l'.length = W → (∀ x ∈ l', x < 256) → vec l' = addV (vec T3[k4].2.2) f (vec tp.2.2) → vec l' c2 = 0 → ∃ T', EW w w.heap.size W c2 r (k4 + 1) (.slice (some ⟨g, 0, none⟩) D.length cap) S tp.2.2 T' wr') :=
                          fun f l' wr' hf hg hB hlen hx he hc => ⟨_, hW.step hrk4 hkT3 hg hB hlen hx hf he hc⟩
                        clear hW hrow hrt htop
                        generalize hlk : T3[k4].2.2 = l at *
                        generalize T3[k4].1 = bk at *
                        generalize hxx : vec l c2 = x at *
                        have hfl : gm x (gi y) < 256 := gm_lt _ hx2
                        have hoff := off_zero hx2 p3 HPC.out
                        generalize hff : gm x (gi y) = f at *
                        have HOFF := hide hoff
                        have HXX := hide hxx
                        clear hoff hxx hlk
                        by_cases hf0 : f = 0
                        · have hfz : ((gm x (gi y) : Nat) : Int) = 0 := by rw [hff, hf0]; rfl
                          have hx0 : x = 0 := by have := HOFF.out; rw [hf0, zero_gm, Nat.xor_zero] at this; exact this
                          have HW2 := hide (HKEEP.out hx0)
                          clear hf0 hff hfl hx0 HKEEP HST HOFF
                          have tn : (c2 : Int) < (W : Int) := by omega
                          go_wp2_with (go_at_call 34; refine (rmul_eq2 x (gi y) rfl rfl hx2 (gi_lt p3) hfz _).mono ?_; rintro e wm ⟨rfl, rfl⟩)
                          refine wp_loop_rounds 1 ?_
                          rw [rounds_succ]
                          go_wp2
                          go_roundw
                          case rel => exact ⟨k4 + 1, T3, by omega, by omega, by go_num, HW2.out⟩
                          case measure => simp [intOf]; omega
                        · have hcx : (((f : Nat) : Int) != 0) = true := by rw [bne_iff_ne]; omega
                          have hfz : ((gm x (gi y) : Nat) : Int) = ((f : Nat) : Int) := by rw [hff]
                          clear hf0 hff HKEEP
                          go_wp2_with (go_at_call 34; refine (rmul_eq2 x (gi y) rfl rfl hx2 (gi_lt p3) hfz _).mono ?_; rintro e wm ⟨rfl, rfl⟩)
                          go_loopw [16] (fun jv wr => RJ wm bk l tp.2.2 f c2 W jv wr) (fun jv _ => W - (intOf jv).toNat)
                          case atStart => exact ⟨c2, Nat.le_refl _, by omega, rfl, World.grownBy.refl _ _, by rw [adTo_start]; exact HBK.out⟩
                          case round =>
                            rename World => wj
                            obtain ⟨j, hcj, hjW, rfl, hgj, hBj⟩ := hrel
                            have hh2 := hgj.cell hh hgb
                            by_cases hjl : j < W
                            · have hb2 := (HBT.out.grown hgj (by intro e; injection e with e; exact hne e)).cell j (by rw [HLP.out]; exact hjl)
                              have hs1 := hBj.cell j (by rw [adTo_len]; omega)
                              rw [adTo_get _ _ _ _ _ (by omega)] at hs1
                              have hsf := hBj.frozen j
                              have hB2 := hBj.set j (l.getD j 0 ^^^ gm f (tp.2.2.getD j 0))
                              rw [adTo_step _ _ _ _ _ hcj] at hB2
                              have hg2 := grown_set hgj j (.int .u8 ((l.getD j 0 ^^^ gm f (tp.2.2.getD j 0) : Nat) : Int))
                              have hdl := getD_lt HLB.out j
                              have hxr := u8_xor (l.getD j 0) (gm f (tp.2.2.getD j 0)) (getD_lt HXB.out j) (gm_lt _ hfl)
                              clear hBj hgj hh hx1
                              generalize l.getD j 0 ^^^ gm f (tp.2.2.getD j 0) = av at *
                              generalize l.getD j 0 = a0 at *
                              generalize tp.2.2.getD j 0 = dd at *
                              go_wp2_with (go_at_call 34; refine (rmul_eq2 f dd rfl rfl hfl hdl rfl _).mono ?_; rintro e w' ⟨rfl, rfl⟩)
                              go_region
                              go_wp2
                              go_roundw
                              case rel => exact ⟨j + 1, by omega, by omega, by go_num, grown_drew hg2 1, hB2⟩
                              case measure => simp [intOf]; omega
                            · have hjj : j = W := by omega
                              rw [hjj] at hBj
                              have he := adTo_vec l tp.2.2 f c2 W hll HLP.out HLZ.out
                              have hz : vec (adTo l tp.2.2 f c2 W) c2 = 0 := by
                                rw [he]
                                show vec l c2 ^^^ gm f (vec tp.2.2 c2) = 0
                                rw [HXX.out, HYY.out]; exact HOFF.out
                              obtain ⟨T4, hE4⟩ := HST.out f _ wj hfl hgj hBj (by rw [adTo_len]; exact hll) (adTo_lt HXB.out hfl _ _) he hz
                              have HE4 := hide hE4
                              clear he hz hE4 hBj hjj
                              go_wp2
                              go_roundw
                              case rel => exact ⟨k4 + 1, T4, by omega, by omega, by go_num, HE4.out⟩
                              case measure => simp [intOf]; omega
                      · have HE3 := hide (HEW.out k4 T3 wm hW (by omega))
                        clear hW
                        go_wp2
                        go_roundw
                        case rel => exact ⟨r + 1, c2 + 1, T3, by omega, by go_num, by go_num, HE3.out⟩
                        case measure => simp [intOf]; omega
            · have hcc : c2 = W := by omega
              have HK := hide (hE.done (by omega))
              have HB := hide hE.bel
              clear hE hcc
              go_wp2
              go_ret
              exact ⟨fun _ => ⟨r, by omega, rfl, HK.out⟩, fun h => absurd HFT.out h, HB.out⟩
end Go.Proofs.YthhommjlomphdabDoor
