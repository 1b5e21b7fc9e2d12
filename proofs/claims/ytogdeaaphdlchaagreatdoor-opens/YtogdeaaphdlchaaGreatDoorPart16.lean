import Derived.Test.YtogdeaaphdlchaaGreatDoorPart15
import Derived.Test.YtogdeaaphdlchaaGreatDoorPart14
import Derived.Test.YtogdeaaphdlchaaGreatDoorPart03
import Derived.RegionTactic
import Derived.BigRegion
/-
  The document's Rank.
-/
namespace Go.Proofs.YtogdeaaphdlchaaGreatDoor
open Go.RowKit Go.Deep Gf

def FitG (D : List (List Nat)) : Prop := D.length ≤ 64 ∧ ∀ i (hi : i < D.length), (D[i]).length ≤ 64
/-- the greatest length of the first k rows -/
def wd (D : List (List Nat)) : Nat → Nat
  | 0 => 0
  | k + 1 => if wd D k < (D.getD k []).length then (D.getD k []).length else wd D k
theorem wd_le (D : List (List Nat)) (h : ∀ i, (D.getD i []).length ≤ 64) : ∀ k, wd D k ≤ 64 := by
  intro k
  induction k with
  | zero => exact Nat.zero_le _
  | succ k ih => unfold wd; split; exact h k; exact ih
theorem le_wd (D : List (List Nat)) (i : Nat) : ∀ k, i < k → (D.getD i []).length ≤ wd D k := by
  intro k
  induction k with
  | zero => intro h; omega
  | succ k ih =>
    intro h
    unfold wd
    by_cases e : i = k
    · subst e; split <;> omega
    · have := ih (by omega)
      split <;> omega
def pad (W : Nat) (l : List Nat) : List Nat := l ++ List.replicate (W - l.length) 0
theorem vec_pad (W : Nat) (l : List Nat) : vec (pad W l) = vec l := by
  funext j
  unfold vec pad
  by_cases hj : j < l.length
  · simp [List.getElem?_append_left hj, hj]
  · rw [List.getD_eq_getElem?_getD, List.getElem?_append_right (Nat.not_lt.1 hj)]
    by_cases h2 : j - l.length < W - l.length
    · simp [h2, List.getElem?_eq_none (Nat.not_lt.1 hj)]
    · simp [h2, List.getElem?_eq_none (Nat.not_lt.1 hj)]
theorem pad_len (W : Nat) (l : List Nat) (h : l.length ≤ W) : (pad W l).length = W := by simp [pad]; omega
theorem pad_lt (W : Nat) (l : List Nat) (h : ∀ x ∈ l, x < 256) : ∀ x ∈ pad W l, x < 256 := by
  intro x hx
  rcases List.mem_append.1 hx with q | q
  · exact h x q
  · have := List.eq_of_mem_replicate q; omega
/-- the state of the working off -/
structure EI (w : World) (B W c r : Nat) (v : Value) (D : List (List Nat)) (T : List (Nat × Nat × List Nat)) (wr : World) : Prop where
  tab : Tab wr B v T
  wid : ∀ i (hi : i < T.length), T[i].2.1 = W ∧ T[i].2.2.length = W
  rle : r ≤ T.length
  len : T.length = D.length
  zer : ∀ i (hi : i < T.length), r ≤ i → ∀ j, j < c → vec T[i].2.2 j = 0
  tak : ∀ k, Taken (64 - c) (Rem (T.map (fun p => p.2.2)) r) c k → RankIs D (r + k)
  bel : Below B w wr
  siz : B ≤ wr.heap.size
theorem EI.skip {w wr : World} {B W c r : Nat} {v : Value} {D : List (List Nat)} {T : List (Nat × Nat × List Nat)} (h : EI w B W c r v D T wr) (hc : c < 64) (hz : ∀ i (hi : i < T.length), r ≤ i → vec T[i].2.2 c = 0) : EI w B W (c + 1) r v D T wr :=
  { h with
    zer := fun i hi hr j hj => by
      by_cases e : j = c
      · subst e; exact hz i hi hr
      · exact h.zer i hi hr j (by omega)
    tak := fun k hk => by
      refine h.tak k ?_
      have e : 64 - c = 64 - (c + 1) + 1 := by omega
      rw [e]
      refine taken_skip (fun i hi hr => ?_) hk
      rw [List.getElem_map]
      exact hz i (by simpa using hi) hr }
theorem EI.pivot {w wr wr' : World} {B W c r p : Nat} {v : Value} {D : List (List Nat)} {T T' : List (Nat × Nat × List Nat)} (h : EI w B W c r v D T wr) (hc : c < 64) (hrp : r ≤ p) (hp : p < T.length) (hpc : vec T[p].2.2 c ≠ 0)
    (hT' : Tab wr' B v T') (hl : T'.length = T.length) (hw' : ∀ i (hi : i < T'.length), T'[i].2.1 = W ∧ T'[i].2.2.length = W)
    (hrest : ∀ i (hi : i < T'.length), r < i → ∃ f, ∃ h : (if i = p then r else i) < T.length, f < 256 ∧ vec T'[i].2.2 = addV (vec T[if i = p then r else i].2.2) f (vec T[p].2.2) ∧ vec T'[i].2.2 c = 0)
    (hb : Below B w wr') (hs : B ≤ wr'.heap.size) : EI w B W (c + 1) (r + 1) v D T' wr' where
  tab := hT'
  wid := hw'
  rle := by omega
  len := by rw [hl]; exact h.len
  zer := fun i hi hr j hj => by
    obtain ⟨f, h1, hf, e, hz⟩ := hrest i hi (by omega)
    by_cases ej : j = c
    · subst ej; exact hz
    · rw [e]
      have z1 := h.zer _ h1 (by split <;> omega) j (by omega)
      have z2 := h.zer p hp hrp j (by omega)
      show vec T[if i = p then r else i].2.2 j ^^^ gm f (vec T[p].2.2 j) = 0
      rw [z1, z2, gm_zero]
      exact Nat.xor_self 0
  tak := fun k hk => by
    have e : r + 1 + k = r + (k + 1) := by omega
    rw [e]
    refine h.tak (k + 1) ?_
    have e : 64 - c = 64 - (c + 1) + 1 := by omega
    rw [e]
    refine taken_pivot (p := p) (T' := T'.map (fun p => p.2.2)) ?_ ?_ (by simpa using hl) hrp (by simpa using hp) (by rw [List.getElem_map]; exact hpc) ?_ hk
    · intro l hl'
      obtain ⟨q, hq, rfl⟩ := List.mem_map.1 hl'
      exact (h.tab.row q hq).2.2.2.2
    · intro l hl'
      obtain ⟨q, hq, rfl⟩ := List.mem_map.1 hl'
      exact (hT'.row q hq).2.2.2.2
    · intro i hi hr
      obtain ⟨f, h1, hf, e, hz⟩ := hrest i (by simpa using hi) hr
      exact ⟨f, by simpa using h1, hf, by simp only [List.getElem_map]; exact e, by simp only [List.getElem_map]; exact hz⟩
  bel := hb
  siz := hs
theorem EI.start {w wr : World} {W : Nat} {v : Value} {D : List (List Nat)} {T : List (Nat × Nat × List Nat)} (hT : Tab wr w.heap.size v T) (hH : T.map (fun p => p.2) = D.map (fun l => (W, pad W l))) (hW : ∀ i (hi : i < D.length), (D[i]).length ≤ W) (hb : Below w.heap.size w wr) (hs : w.heap.size ≤ wr.heap.size) : EI w w.heap.size W 0 0 v D T wr := by
  have hl : T.length = D.length := by simpa using congrArg List.length hH
  have hat : ∀ i (h1 : i < T.length) (h2 : i < D.length), T[i].2 = (W, pad W D[i]) := by
    intro i h1 h2
    have := List.getElem_of_eq hH (i := i) (by simpa using h1)
    simpa using this
  refine ⟨hT, fun i hi => ?_, Nat.zero_le _, hl, fun _ _ _ j hj => absurd hj (Nat.not_lt_zero _), fun k hk => ?_, hb, hs⟩
  · rw [hat i hi (by omega)]
    exact ⟨rfl, pad_len W _ (hW i (by omega))⟩
  · rw [Nat.zero_add]
    have e : Rem (T.map (fun p => p.2.2)) 0 = Rem D 0 := rem_congr (by simpa using hl) (fun i h1 h2 => by
      rw [List.getElem_map]
      have := hat i (by simpa using h1) h2
      rw [this]
      exact vec_pad W _) 0
    rw [e] at hk
    exact hk
theorem EI.done {w wr : World} {B W c r : Nat} {v : Value} {D : List (List Nat)} {T : List (Nat × Nat × List Nat)} (h : EI w B W c r v D T wr) (hc : W ≤ c) : RankIs D r :=
  h.tak 0 (taken_done (fun l hl => by
    obtain ⟨q, hq, rfl⟩ := List.mem_map.1 hl
    obtain ⟨i, hi, rfl⟩ := List.mem_iff_getElem.1 hq
    rw [(h.wid i hi).2]; exact hc))
/-- the columns -/
def RC (w : World) (W : Nat) (v : Value) (D : List (List Nat)) (rv cv : Value) (wr : World) : Prop :=
  ∃ (r c : Nat) (T : List (Nat × Nat × List Nat)), c ≤ W ∧ rv = .int .i64 (r : Nat) ∧ cv = .int .i64 (c : Nat) ∧ EI w w.heap.size W c r v D T wr
/-- which row is taken -/
def RP (T : List (Nat × Nat × List Nat)) (r c : Nat) (av iv : Value) : Prop :=
  ∃ k : Nat, r ≤ k ∧ k ≤ T.length ∧ iv = .int .i64 (k : Nat) ∧ ((av = .int .i64 (-1) ∧ ∀ i (hi : i < T.length), r ≤ i → i < k → vec T[i].2.2 c = 0) ∨ ∃ p : Nat, ∃ hp : p < T.length, r ≤ p ∧ av = .int .i64 (p : Nat) ∧ vec T[p].2.2 c ≠ 0)
/-- the rows below -/
structure EW (w : World) (B W c r k : Nat) (v : Value) (S : List (Nat × Nat × List Nat)) (lp : List Nat) (T : List (Nat × Nat × List Nat)) (wr : World) : Prop where
  tab : Tab wr B v T
  len : T.length = S.length
  wid : ∀ i (hi : i < T.length), T[i].2.1 = W ∧ T[i].2.2.length = W
  old : ∀ i (hi : i < T.length) (hi' : i < S.length), i ≤ r ∨ k ≤ i → T[i] = S[i]
  new : ∀ i (hi : i < T.length) (hi' : i < S.length), r < i → i < k → ∃ f, f < 256 ∧ vec T[i].2.2 = addV (vec S[i].2.2) f (vec lp) ∧ vec T[i].2.2 c = 0
  bel : Below B w wr
  siz : B ≤ wr.heap.size
def RW (w : World) (B W c r : Nat) (v : Value) (S : List (Nat × Nat × List Nat)) (lp : List Nat) (iv : Value) (wr : World) : Prop :=
  ∃ (k : Nat) (T : List (Nat × Nat × List Nat)), r < k ∧ k ≤ S.length ∧ iv = .int .i64 (k : Nat) ∧ EW w B W c r k v S lp T wr
theorem EW.step {w wr wr' : World} {B W c r k : Nat} {v : Value} {S T : List (Nat × Nat × List Nat)} {lp l' : List Nat} {f : Nat} (h : EW w B W c r k v S lp T wr) (hr : r < k) (hk : k < T.length) (hg : wr.grownBy wr' (some T[k].1)) (hB : Brow wr' T[k].1 l') (hlen : l'.length = W) (hx : ∀ x ∈ l', x < 256)
    (hf : f < 256) (he : vec l' = addV (vec T[k].2.2) f (vec lp)) (hc : vec l' c = 0) : EW w B W c r (k + 1) v S lp (T.set k (T[k].1, T[k].2.1, l')) wr' := by
  have hm := h.tab.row _ (List.getElem_mem hk)
  refine ⟨h.tab.wrote hk hg hB (by rw [hlen, (h.wid k hk).2]) hx, by rw [List.length_set]; exact h.len, fun i hi => ?_, fun i hi hi' ho => ?_, fun i hi hi' h1 h2 => ?_, grown_below h.bel hg h.siz hm.1, Nat.le_trans h.siz hg.size⟩
  · rw [List.length_set] at hi
    rw [List.getElem_set]
    by_cases e : k = i
    · rw [if_pos e]; exact ⟨(h.wid k hk).1, hlen⟩
    · rw [if_neg e]; exact h.wid i hi
  · rw [List.length_set] at hi
    rw [List.getElem_set, if_neg (by omega)]
    exact h.old i hi hi' (by omega)
  · rw [List.length_set] at hi
    rw [List.getElem_set]
    by_cases e : k = i
    · subst e
      rw [if_pos rfl]
      refine ⟨f, hf, ?_, hc⟩
      rw [← h.old k hi hi' (.inr (Nat.le_refl _))]
      exact he
    · rw [if_neg e]; exact h.new i hi hi' h1 (by omega)
theorem EW.keep {w wr : World} {B W c r k : Nat} {v : Value} {S T : List (Nat × Nat × List Nat)} {lp : List Nat} (h : EW w B W c r k v S lp T wr) (hk : k < T.length) (hc : vec T[k].2.2 c = 0) : EW w B W c r (k + 1) v S lp T wr :=
  { h with
    old := fun i hi hi' ho => h.old i hi hi' (by omega)
    new := fun i hi hi' h1 h2 => by
      by_cases e : i = k
      · subst e
        refine ⟨0, by decide, ?_, hc⟩
        rw [addV_zero, h.old i hi hi' (.inr (Nat.le_refl _))]
      · exact h.new i hi hi' h1 (by omega) }
theorem Tab.ne {w : World} {B : Nat} {v : Value} {T : List (Nat × Nat × List Nat)} (h : Tab w B v T) {i j : Nat} (hi : i < T.length) (hj : j < T.length) (hij : i ≠ j) : T[i].1 ≠ T[j].1 := by
  have hnd := List.pairwise_iff_getElem.1 h.nodup
  intro e
  rcases Nat.lt_or_gt_of_ne hij with h' | h'
  · exact hnd i j (by simpa using hi) (by simpa using hj) h' (by simpa using e)
  · exact hnd j i (by simpa using hj) (by simpa using hi) h' (by simpa using e.symm)
theorem Tab.head {w : World} {B W g n cap : Nat} {T : List (Nat × Nat × List Nat)} (h : Tab w B (.slice (some ⟨g, 0, none⟩) n cap) T) (hw : ∀ i (hi : i < T.length), T[i].2.1 = W ∧ T[i].2.2.length = W) {i : Nat} (hi : i < T.length) : w.cell? ⟨g, i, none⟩ = some (.slice (some ⟨T[i].1, 0, none⟩) W W) := by
  have := h.cell_at hi
  unfold hdr at this
  rw [(hw i hi).1, (hw i hi).2] at this
  exact this
theorem Tab.byte {w : World} {B W c : Nat} {v : Value} {T : List (Nat × Nat × List Nat)} (h : Tab w B v T) (hw : ∀ i (hi : i < T.length), T[i].2.1 = W ∧ T[i].2.2.length = W) {i : Nat} (hi : i < T.length) (hc : c < W) : w.cell? ⟨T[i].1, c, none⟩ = some (.int .u8 ((vec T[i].2.2 c : Nat) : Int)) ∧ vec T[i].2.2 c < 256 :=
  ⟨(h.row _ (List.getElem_mem hi)).2.1.cell c (by rw [(hw i hi).2]; exact hc), getD_lt (h.row _ (List.getElem_mem hi)).2.2.2.2 c⟩
theorem EI.cells {w wr : World} {B W c r g n cap : Nat} {D : List (List Nat)} {T : List (Nat × Nat × List Nat)} (h : EI w B W c r (.slice (some ⟨g, 0, none⟩) n cap) D T wr) (hc : c < W) (i : Nat) (hi : i < T.length) :
    wr.cell? ⟨g, i, none⟩ = some (.slice (some ⟨T[i].1, 0, none⟩) W W) ∧ wr.cell? ⟨T[i].1, c, none⟩ = some (.int .u8 ((vec T[i].2.2 c : Nat) : Int)) ∧ vec T[i].2.2 c < 256 :=
  ⟨h.tab.head h.wid hi, h.tab.byte h.wid hi hc⟩
theorem EI.swap {w wr : World} {B W c r p g n cap : Nat} {D : List (List Nat)} {T : List (Nat × Nat × List Nat)} (h : EI w B W c r (.slice (some ⟨g, 0, none⟩) n cap) D T wr) (hB : B ≤ g) (hr : r < T.length) (hp : p < T.length) :
    EW w B W c r (r + 1) (.slice (some ⟨g, 0, none⟩) n cap) (swp T p r) T[p].2.2 (swp T p r) ((wr.setCell ⟨g, p, none⟩ (.slice (some ⟨T[r].1, 0, none⟩) W W)).setCell ⟨g, r, none⟩ (.slice (some ⟨T[p].1, 0, none⟩) W W)) := by
  have e1 : hdr T[r] = .slice (some ⟨T[r].1, 0, none⟩) W W := by unfold hdr; rw [(h.wid r hr).1, (h.wid r hr).2]
  have e2 : hdr T[p] = .slice (some ⟨T[p].1, 0, none⟩) W W := by unfold hdr; rw [(h.wid p hp).1, (h.wid p hp).2]
  have hs := h.tab.swap hp hr
  rw [e1, e2] at hs
  refine ⟨hs, rfl, fun i hi => ?_, fun _ _ _ _ => rfl, fun i _ _ h1 h2 => absurd h1 (by omega), ?_, ?_⟩
  · obtain ⟨j, hj, e⟩ := List.mem_iff_getElem.1 (swp_mem T p r hp hr _ (List.getElem_mem hi))
    rw [← e]; exact h.wid j hj
  · exact (h.bel.setCell (p := ⟨g, p, none⟩) hB _).setCell (p := ⟨g, r, none⟩) hB _
  · rw [nblk_setCell, nblk_setCell]; exact h.siz
theorem EI.worked {w wr wr' : World} {B W c r p k : Nat} {v : Value} {D : List (List Nat)} {T T' : List (Nat × Nat × List Nat)} (h : EI w B W c r v D T wr) (hc : c < 64) (hrp : r ≤ p) (hp : p < T.length) (hpc : vec T[p].2.2 c ≠ 0)
    (h' : EW w B W c r k v (swp T p r) T[p].2.2 T' wr') (hk : T.length ≤ k) : EI w B W (c + 1) (r + 1) v D T' wr' := by
  have hr : r < T.length := by omega
  have hl : T'.length = T.length := by rw [h'.len, swp_len]
  refine h.pivot hc hrp hp hpc h'.tab hl h'.wid (fun i hi hri => ?_) h'.bel h'.siz
  obtain ⟨f, hf, e, hz⟩ := h'.new i hi (by rw [swp_len]; omega) hri (by omega)
  have h1 : (if i = p then r else i) < T.length := by split <;> omega
  refine ⟨f, h1, hf, ?_, hz⟩
  rw [e]
  have hi' : i < T.length := by omega
  have e2 : (swp T p r)[i]'(by rw [swp_len]; omega) = T[if i = p then r else i] := by
    rw [swp_get T p r i hp hr hi', if_neg (by omega)]
    by_cases e3 : i = p
    · simp only [if_pos e3]
    · simp only [if_neg e3]
  rw [e2]
/-- the row that is taken lies at r -/
theorem EW.top {w wr : World} {B W c r p k : Nat} {v : Value} {T T' : List (Nat × Nat × List Nat)} (hr : r < T.length) (hp : p < T.length) (h : EW w B W c r k v (swp T p r) T[p].2.2 T' wr) : ∃ hr' : r < T'.length, T'[r] = T[p] := by
  have hl : T'.length = T.length := by rw [h.len, swp_len]
  refine ⟨by omega, ?_⟩
  rw [h.old r (by omega) (by rw [swp_len]; exact hr) (.inl (Nat.le_refl _)), swp_get T p r r hp hr hr, if_pos rfl]
/-- one row -/
def RJ (wi : World) (b : Nat) (l lp : List Nat) (f c W : Nat) (jv : Value) (wr : World) : Prop :=
  ∃ j : Nat, c ≤ j ∧ j ≤ W ∧ jv = .int .i64 (j : Nat) ∧ wi.grownBy wr (some b) ∧ Brow wr b (adTo l lp f c j)
def RkPost (D : List (List Nat)) (w : World) (e : Ending) (w' : World) : Prop := (FitG D → ∃ k : Nat, k ≤ 64 ∧ e = .returned (.int .i64 k) ∧ RankIs D k) ∧ (¬ FitG D → e = .returned (.int .i64 (-1))) ∧ Below w.heap.size w w'
def RR1 (D : List (List Nat)) (wv i : Value) : Prop := ∃ k : Nat, k ≤ D.length ∧ wv = .int .i64 (wd D k : Nat) ∧ i = .int .i64 k ∧ wd D k ≤ 64 ∧ ∀ j (hj : j < D.length), j < k → (D[j]).length ≤ 64
def RR2 (w : World) (W : Nat) (D : List (List Nat)) (v i : Value) (wr : World) : Prop :=
  ∃ k T, k ≤ D.length ∧ i = .int .i64 (k : Nat) ∧ Tab wr w.heap.size v T ∧ T.map (fun p => p.2) = (D.take k).map (fun l => (W, pad W l)) ∧ Below w.heap.size w wr ∧ w.heap.size ≤ wr.heap.size
end Go.Proofs.YtogdeaaphdlchaaGreatDoor
/-
  The program's rows side by side: how they are worked off one another.
-/
namespace Go.Proofs.YtogdeaaphdlchaaGreatDoor
open Go.RowKit Go.Deep Gf

def FtPost (D : List (List Nat)) (w : World) (e : Ending) (w' : World) : Prop := (FitG D → e = .returned (.bool true)) ∧ (¬ FitG D → e = .returned (.bool false)) ∧ w' = w
def FtR (D : List (List Nat)) (i : Value) : Prop := ∃ k : Nat, k ≤ D.length ∧ i = .int .i64 (k : Nat) ∧ ∀ j (hj : j < D.length), j < k → (D[j]).length ≤ 64
set_option maxRecDepth 100000 in
set_option maxHeartbeats 4000000 in
theorem fits_any (vd : Value) (D : List (List Nat)) (w : World) (hd : Rd w vd D) :
    Calls Tryz.prog 66 #[vd] w fun e w' => FtPost D w e w' := by
  by_cases h64 : 64 < D.length
  · obtain ⟨ao, c, rfl, hl, _⟩ := hd
    go_enter Tryz.func66, Tryz.ntmps66
    go_wp2
    go_ret
    exact ⟨fun h => absurd h.1 (by omega), fun _ => rfl, rfl⟩
  rcases hd.cases with ⟨rfl, ao, c, rfl⟩ | ⟨b, off, c, rfl, hl, hc⟩
  · go_enter Tryz.func66, Tryz.ntmps66
    go_wp2
    refine wp_loop_rounds 1 ?_
    rw [rounds_succ]
    go_wp2
    go_ret
    exact ⟨fun _ => rfl, fun h => absurd ⟨by simp, fun i hi => by simp at hi⟩ h, rfl⟩
  have HC := hide hc
  clear hc
  go_enter Tryz.func66, Tryz.ntmps66
  go_wp2
  go_loop [10] (fun i => FtR D i) (fun i => D.length - (intOf i).toNat)
  case atStart => exact ⟨0, Nat.zero_le _, rfl, fun j _ h => absurd h (by omega)⟩
  case round =>
    obtain ⟨k, hk, rfl, hok⟩ := hrel
    by_cases hlt : k < D.length
    · obtain ⟨u, hu, hBs⟩ := HC.out k hlt
      obtain ⟨fo, fc, rfl, q1, q2, q3, q4⟩ := hBs
      by_cases h1 : (D[k]).length ≤ 64
      · have HOK : Hid (∀ j (hj : j < D.length), j < k + 1 → (D[j]).length ≤ 64) := by
          intro j hj hjk
          by_cases e : j = k
          · subst e; exact h1
          · exact hok j hj (by omega)
        clear hok q1 q2 q3 q4
        generalize (D[k]).length = lk at *
        go_wp2
        go_round
        case rel => exact ⟨k + 1, by omega, by go_num, HOK.out⟩
        case measure => simp [intOf]; omega
      · have HN : Hid (¬ FitG D) := fun h => h1 (h.2 k hlt)
        have hlk : (D[k]).length ≤ 140737488355328 := by omega
        clear hok q1 q2 q3 q4
        generalize (D[k]).length = lk at *
        go_wp2
        go_ret
        exact ⟨fun h => absurd h HN.out, fun _ => rfl, rfl⟩
    · have HF : Hid (FitG D) := ⟨by omega, fun i hi => hok i hi (by omega)⟩
      clear hok
      go_wp2
      go_ret
      exact ⟨fun _ => rfl, fun h => absurd HF.out h, rfl⟩
/-- column c is worked off row top in the rows from top + 1 to k - 1; iv: the inverse of row top's number there -/
def wk (G : Nat → Nat) (top c iv k x : Nat) : Nat := if top < x / 64 ∧ x / 64 < k ∧ c ≤ x % 64 then G x ^^^ gm (gm (G (x / 64 * 64 + c)) iv) (G (top * 64 + x % 64)) else G x
theorem wk_start (G : Nat → Nat) (top c iv : Nat) : wk G top c iv (top + 1) = G := by
  funext x; unfold wk; rw [if_neg (by omega)]
theorem wk_lt {G : Nat → Nat} (h : ∀ x, G x < 256) {iv : Nat} (top c k x : Nat) : wk G top c iv k x < 256 := by
  unfold wk
  split
  · exact xlt (h x) (gm_lt _ (gm_lt _ (h _)))
  · exact h x
theorem wk_top (G : Nat → Nat) (top c iv k j : Nat) (hj : j < 64) : wk G top c iv k (top * 64 + j) = G (top * 64 + j) := by
  unfold wk; rw [if_neg (by omega)]
theorem wk_next (G : Nat → Nat) (top c iv k j : Nat) (hj : j < 64) : wk G top c iv k (k * 64 + j) = G (k * 64 + j) := by
  unfold wk; rw [if_neg (by omega)]
theorem wk_step (G : Nat → Nat) (top c iv k : Nat) (ht : top < k) (hc : c < 64) : addTo (wk G top c iv k) (fun i => G (top * 64 + c + i)) (gm (G (k * 64 + c)) iv) (k * 64 + c) (64 - c) = wk G top c iv (k + 1) := by
  funext x
  unfold addTo
  by_cases h : k * 64 + c ≤ x ∧ x < k * 64 + c + (64 - c)
  · have e1 : x / 64 = k := by omega
    have e2 : top * 64 + c + (x - (k * 64 + c)) = top * 64 + x % 64 := by omega
    rw [if_pos h]
    unfold wk
    rw [if_neg (by omega), if_pos (by omega), e1]
    show _ ^^^ gm _ (G (top * 64 + c + (x - (k * 64 + c)))) = _
    rw [e2]
  · rw [if_neg h]
    unfold wk
    by_cases h2 : top < x / 64 ∧ x / 64 < k ∧ c ≤ x % 64
    · rw [if_pos h2, if_pos (by omega)]
    · rw [if_neg h2, if_neg (by omega)]
theorem grid_slice (w : World) (b o c : Nat) (hc : c < 64) : (Instr.sliceAt 156 (.pointer (some ⟨b, o, none⟩)) (some (.int .i64 (c : Int))) none none).run Tryz.prog w = .ok (.slice (some ⟨b, o + c, none⟩) (64 - c) (64 - c)) w := by
  have hl : Tryz.prog.arrayLen 156 = 64 := by kernel_rfl
  have hu : Tryz.prog.underlying 156 = some (.array (Tryz.prog.arrayLen 156) (Tryz.prog.elem 156)) := by kernel_rfl
  have hs : ∀ w, (sizeOf (Tryz.prog.elem 156)).run Tryz.prog w = .ok 1 w := by
    have he : Tryz.prog.elem 156 = 5 := by kernel_rfl
    rw [he]
    intro w
    go_simp
  rw [run_sliceAt_array_l w 156 _ hu .i64 (c : Int) (by omega) (by rw [hl]; omega), hs, hl]
  simp [slicedAt, Result.andThen]
  rw [if_neg (by omega)]
  simp [Addr.add]
def WkR (w : World) (b t top c iv n : Nat) (G : Nat → Nat) (i : Value) (wr : World) : Prop :=
  ∃ k : Nat, top < k ∧ k ≤ max n (top + 1) ∧ i = .int .i64 (k : Nat) ∧ wr.rowIs b t 4096 (tv (wk G top c iv k)) ∧ w.grownBy wr (some b)
set_option maxRecDepth 100000 in
set_option maxHeartbeats 4000000 in
theorem workOff_any (b top c n : Nat) (G : Nat → Nat) (w : World) (hG : ∀ x, G x < 256) (hr : w.rowIs b 180 4096 (tv G)) (ht : top < 64) (hc : c < 64) (hn : n ≤ 64) :
    Calls Tryz.prog 68 #[.pointer (some ⟨b, 0, none⟩), .int .i64 top, .int .i64 c, .int .i64 n] w fun e w' => e = .returned (.tuple #[]) ∧ w'.rowIs b 180 4096 (tv (wk G top c (gi (G (top * 64 + c))) (max n (top + 1)))) ∧ w.grownBy w' (some b) := by
  have hc1 : w.cell? ⟨b, top * 64 + c, none⟩ = some (.int .u8 ((G (top * 64 + c) : Nat) : Int)) := hr.cell (by omega)
  have hy := hG (top * 64 + c)
  generalize hyy : G (top * 64 + c) = y at *
  go_enter Tryz.func68, Tryz.ntmps68
  go_wp2_with (go_at_call 88; refine (inv_any y hy _).mono ?_; rintro e wv ⟨rfl, rfl⟩)
  have hs0 : wv.rowIs b 180 4096 (tv (wk G top c (gi y) (top + 1))) := by rw [wk_start]; exact hr
  go_loopw [9] (fun i wr => WkR wv b 180 top c (gi y) n G i wr) (fun i _ => n - (intOf i).toNat)
  case atStart => exact ⟨top + 1, by omega, by omega, by go_num, hs0, World.grownBy.refl _ _⟩
  case round =>
    clear hs0 hr hc1
    rename World => wo
    obtain ⟨k, htk, hkn, rfl, hrk, hgk⟩ := hrel
    by_cases hlt : k < n
    · have hck : wo.cell? ⟨b, k * 64 + c, none⟩ = some (.int .u8 ((wk G top c (gi y) k (k * 64 + c) : Nat) : Int)) := hrk.cell (by omega)
      rw [wk_next _ _ _ _ _ _ hc] at hck
      have hx := hG (k * 64 + c)
      have hfc : ∀ i, i < 64 - c → wo.cell? ⟨b, top * 64 + c + i, none⟩ = some (.int .u8 ((G (top * 64 + c + i) : Nat) : Int)) := by
        intro i hi
        have h1 : wo.cell? ⟨b, top * 64 + c + i, none⟩ = some (.int .u8 ((wk G top c (gi y) k (top * 64 + c + i) : Nat) : Int)) := hrk.cell (by omega)
        rw [Nat.add_assoc, wk_top _ _ _ _ _ _ (by omega), ← Nat.add_assoc] at h1
        exact h1
      have hst := wk_step G top c (gi y) k htk hc
      have hfl : gm (G (k * 64 + c)) (gi y) < 256 := gm_lt _ hx
      have HFC := hide hfc
      have HST := hide hst
      clear hfc hst
      generalize G (k * 64 + c) = x at *
      have hsl1 := fun w => grid_slice w b (k * 64) c hc
      have hsl2 := fun w => grid_slice w b (top * 64) c hc
      go_wp2
      go_region_with (first
        | (go_at_call 90; refine (mul_any x (gi y) hx (gi_lt hy) _).mono ?_; rintro e w' ⟨rfl, rfl⟩)
        | (go_at_call 89; refine (addTimes_some b 180 4096 (k * 64 + c) (64 - c) (64 - c) b (top * 64 + c) (64 - c) (gm x (gi y)) (wk G top c (gi y) k) (fun i => G (top * 64 + c + i)) _ hfl (by exact hrk) (wk_lt hG top c k) (fun j => hG _) (by omega) (by omega) (by exact HFC.out) (.inr (.inl (by omega)))).mono ?_; rintro e w' ⟨rfl, hr2, hg2⟩))
      all_goals
        have hr3 := hr2
        rw [HST.out] at hr3
        have hg3 : wv.grownBy w' (some b) := grown_trans hgk ⟨hg2.os, hg2.tape, hg2.output, hg2.size, hg2.block⟩
        clear hr2 hg2 hsl1 hsl2
        go_wp2
        go_roundw
        case rel => exact ⟨k + 1, by omega, by omega, by go_num, hr3, hg3⟩
        case measure => simp [intOf]; omega
    · have hkk : k = max n (top + 1) := by omega
      rw [hkk] at hrk
      clear hkk
      go_wp2
      go_end0
      exact ⟨rfl, hrk, hgk⟩
end Go.Proofs.YtogdeaaphdlchaaGreatDoor
/-
  Rows are laid side by side.
-/
namespace Go.Proofs.YtogdeaaphdlchaaGreatDoor
open Go.RowKit Go.Deep Gf

def gridOf (D : List (List Nat)) (x : Nat) : Nat := (D.getD (x / 64) []).getD (x % 64) 0
def gridTo (D : List (List Nat)) (k x : Nat) : Nat := if x / 64 < k then gridOf D x else 0
theorem Tryz.infoGrid : (Tryz.prog.info? 180).map (fun i => (i.zero, i.size, i.bytes)) = some (some (.agg (Array.replicate 4096 (.int .u8 0))), 4096, 4096) := by kernel_rfl
theorem Tryz.sizeGrid : (Tryz.prog.info? 180).map (fun i => i.size) = some 4096 := by kernel_rfl
theorem zeroGrid (w : World) : (zeroValue 180).run Tryz.prog w = .ok (.agg (Array.replicate 4096 (.int .u8 0))) w := by
  obtain ⟨i0, hi0, hz0, _, _⟩ := info_parts Tryz.infoGrid
  simp [zeroValue, typeInfo, Sem.run_bind, hi0, hz0]
theorem zero4096 (w : World) : (w.alloc (.cells (Array.replicate 4096 (.int .u8 0)) 180)).rowIs w.heap.size 180 4096 (fun _ => .int .u8 0) := by
  have h := World.rowIs_alloc w (Array.replicate 4096 (.int .u8 0)) 180 (fun _ => .int .u8 0) (fun i hi => by simp at hi; simp [hi])
  simpa using h
theorem row_heap {w : World} {b t n : Nat} {f : Nat → Value} (h : w.rowIs b t n f) : w.heap[b]? = some (.cells ((List.range n).map f).toArray t (0, 0)) := by
  obtain ⟨c, hc, hs, hg⟩ := h
  have : c = ((List.range n).map f).toArray := by
    apply Array.ext
    · simp [hs]
    · intro i h1 h2
      have := hg i (by omega)
      rw [Array.getElem?_eq_getElem h1] at this
      simp at this
      simp [this]
  rw [← this]; exact hc
/-- copy into the middle of a block -/
theorem wpList_cpg {w : World} {ops : Array Oper} {rest : List Oper} {o : Oper} {a : Act} {Q : Exit → Act → World → Prop} (hgd : o.guard = none) (d s : Operand)
    (ho : o.op = .call { callee := .builtin .copy, args := #[d, s], argTypes := #[166, 166] }) (g off n cap N t : Nat) (v : Value) (hd : a.eval d = .slice (some ⟨g, off, none⟩) n cap) (hs : a.eval s = v)
    (F : Nat → Nat) (src : List Nat) (hB : w.rowIs g t N (tv F)) (hS : Bs w v src) (hle : src.length ≤ n) (hn : off + n ≤ N)
    (h : ∀ w', w'.rowIs g t N (tv (fun x => if off ≤ x ∧ x < off + src.length then src.getD (x - off) 0 else F x)) → Below g w w' → wpList Tryz.prog ops Q rest (a.put o.dst (goInt src.length)) w') : wpList Tryz.prog ops Q (o :: rest) a w := by
  obtain ⟨ao, c, rfl, h1, h2, h3, h4⟩ := hS
  refine wpList_copy_splice hgd d s 166 166 ho 5 Tryz.underlying166 (by kernel_rfl) (some ⟨g, off, none⟩) ao n cap src.length c hd hs g off _ t (row_heap hB) (src.map (fun x => Value.int .u8 ((x : Nat) : Int))) ?_ ?_ ?_ ?_ g w (Below.refl _ _) (Nat.le_refl _) ?_
  · rw [List.length_map]
    show src.length = min src.length n
    omega
  · intro hp
    rw [List.length_map] at hp
    obtain ⟨b, off, rfl, hc⟩ := h4 (by intro e; rw [e] at hp; simp at hp)
    refine ⟨rfl, _, rfl, fun j u hj => ?_⟩
    have hjl : j < src.length := by
      have := List.getElem?_eq_some_iff.1 hj
      obtain ⟨q, _⟩ := this
      simpa using q
    rw [Addr.add_mid, hc j hjl]
    simp [hjl] at hj
    simp [hjl, hj]
  · simp; omega
  · intro u hu
    obtain ⟨x, _, rfl⟩ := List.mem_map.1 hu
    rfl
  · intro w' hw' hb'
    have hw := hw'.out
    rw [List.length_map]
    refine h w' ⟨_, hw, ?_, fun i hi => ?_⟩ hb'
    · rw [List.size_toArray, length_splice _ _ _ (by simp; omega)]; simp
    · unfold splice
      rw [List.getElem?_toArray]
      by_cases q1 : i < off
      · rw [List.getElem?_append_left (by simp; omega)]
        have q0 : ¬ (off ≤ i ∧ i < off + src.length) := by omega
        simp only [tv, if_neg q0]
        simp [q1, hi, tv]
      · rw [List.getElem?_append_right (by simp; omega)]
        have e0 : (((List.range N).map (tv F)).take off).length = off := by simp; omega
        rw [e0]
        by_cases q2 : i < off + src.length
        · rw [List.getElem?_append_left (by simp; omega)]
          have q3 : i - off < src.length := by omega
          simp [q3, tv, q2, Nat.not_lt.1 q1]
        · rw [List.getElem?_append_right (by simp; omega)]
          simp only [List.length_map]
          rw [List.getElem?_drop]
          have e1 : off + src.length + (i - off - src.length) = i := by omega
          rw [e1]
          simp [hi, tv, q2]
def LyR (w : World) (B : Nat) (D : List (List Nat)) (i : Value) (wr : World) : Prop :=
  ∃ k : Nat, k ≤ D.length ∧ i = .int .i64 (k : Nat) ∧ wr.rowIs (B + 1) 180 4096 (tv (gridTo D k)) ∧ wr.rowIs B 180 4096 (fun _ => .int .u8 0) ∧ Below B w wr
theorem gridTo_step (D : List (List Nat)) (k : Nat) (hk : k < D.length) (hl : (D[k]).length ≤ 64) : (fun x => if k * 64 ≤ x ∧ x < k * 64 + (D[k]).length then (D[k]).getD (x - k * 64) 0 else gridTo D k x) = gridTo D (k + 1) := by
  have hg : D.getD k [] = D[k] := by simp [hk]
  funext x
  unfold gridTo gridOf
  by_cases h : k * 64 ≤ x ∧ x < k * 64 + (D[k]).length
  · rw [if_pos h, if_pos (by omega)]
    have e1 : x / 64 = k := by omega
    have e2 : x % 64 = x - k * 64 := by omega
    rw [e1, hg, e2]
  · rw [if_neg h]
    by_cases h2 : x / 64 < k
    · rw [if_pos h2, if_pos (by omega)]
    · rw [if_neg h2]
      by_cases h3 : x / 64 = k
      · rw [if_pos (by omega), h3, hg, List.getD_eq_getElem?_getD, List.getElem?_eq_none (by omega)]; rfl
      · rw [if_neg (by omega)]
theorem gridTo_end (D : List (List Nat)) (x : Nat) : gridTo D D.length x = gridOf D x := by
  unfold gridTo
  by_cases h : x / 64 < D.length
  · rw [if_pos h]
  · rw [if_neg h]
    unfold gridOf
    simp [List.getElem?_eq_none (Nat.not_lt.1 h)]
theorem one_cells2 {cs : Array Value} {N : Nat} {f : Nat → Nat} (hs : cs.size = N) (h : ∀ j, j < N → cs[j]? = some (tv f j)) : cs.all (fun v => v.oneCell') = true := by
  rw [Array.all_eq_true]
  intro i hi
  have := h i (by omega)
  rw [Array.getElem?_eq_getElem hi] at this
  simp at this
  rw [this]; rfl
set_option maxRecDepth 100000 in
set_option maxHeartbeats 4000000 in
theorem lay_any (vd : Value) (D : List (List Nat)) (w : World) (hd : Rd w vd D) (hf : FitG D) :
    Calls Tryz.prog 67 #[vd] w fun e w' => ∃ cs : Array Value, e = .returned (.agg cs) ∧ cs.size = 4096 ∧ (∀ j, j < 4096 → cs[j]? = some (tv (gridOf D) j)) ∧ Below w.heap.size w w' := by
  have HF := hide hf
  have hl64 := hf.1
  have hds := hd
  obtain ⟨ao, c, rfl, hl, hc⟩ := hd
  have HC := hide hc
  clear hc hf hds
  have hzg := zeroGrid
  go_enter Tryz.func67, Tryz.ntmps67
  go_wp2
  clear hzg
  go_loopw [8] (fun i wr => LyR w w.heap.size D i wr) (fun i _ => D.length - (intOf i).toNat)
  case atStart =>
    refine ⟨0, Nat.zero_le _, rfl, ?_, ?_, ?_⟩
    · have h := zero4096 (w.alloc (.cells (Array.replicate 4096 (.int .u8 0)) 180))
      rw [nblk_alloc] at h
      exact h.congr fun j hj => by unfold tv gridTo; simp
    · exact (zero4096 w).alloc _
    · exact ((Below.refl _ _).alloc (Nat.le_refl _) _).alloc (by rw [nblk_alloc]; omega) _
  case round =>
    rename World => wo
    obtain ⟨k, hk, rfl, hR, hZ, hb⟩ := hrel
    by_cases hlt : k < D.length
    · obtain ⟨b, off, rfl, hcc⟩ := HC.out (by intro e; rw [e] at hlt; simp at hlt)
      obtain ⟨u, hu, hBs⟩ := hcc k hlt
      have hBo := hBs.mono hb
      have hlk := HF.out.2 k hlt
      have hst := gridTo_step D k hlt hlk
      have hu' : wo.cell? ⟨b, off + k, none⟩ = some u := by rw [hb.cell (block_lt_of_cell hu)]; exact hu
      have HST := hide hst
      clear hcc hst hu hBs HC
      generalize D[k] = l at *
      go_wp2_with (refine wpList_cpg rfl (.tmp 15) (.tmp 16) rfl (w.heap.size + 1) (k * 64) 64 64 4096 180 u rfl rfl (gridTo D k) l hR hBo hlk (by omega) ?_; intro w2 hR2 hb2)
      rw [HST.out] at hR2
      have hZ2 := World.rowIs.of_block hZ (hb2.block w.heap.size (by omega))
      go_wp2
      go_roundw
      case rel => exact ⟨k + 1, by omega, by go_num, hR2, hZ2, hb.trans (hb2.mono (by omega))⟩
      case measure => simp [intOf]; omega
    · have hkk : k = D.length := by omega
      rw [hkk] at hR
      clear hkk
      have hR2 := hR.congr (g := tv (gridOf D)) (fun j hj => by unfold tv; rw [gridTo_end])
      obtain ⟨cs, hcs, hsz, hget⟩ := hR2
      obtain ⟨zs, hzs, hzz, _⟩ := hZ
      have h1 := one_cells2 hsz hget
      have HG := hide hget
      have hi : (Tryz.prog.info? 180).map (fun i => i.size) = some cs.size := by rw [Tryz.sizeGrid, hsz]
      have HI := hide hi
      have HCC := hide hcs
      have HZ := hide hzs
      clear hget hR hi hcs hzs
      go_wp2_with (first
        | refine wpList_load_row rfl 180 (.tmp 3) rfl (w.heap.size + 1) rfl 180 cs (0, 0) _ HCC.out Tryz.underlying180 rfl HI.out ?_
        | refine wpList_store_row rfl 180 (.tmp 2) (.tmp 19) rfl w.heap.size cs rfl rfl 180 zs HZ.out HI.out (by omega) h1 ?_)
      exact bodyPost_ret (v := .agg cs) (results_cell_row Tryz.results67 _ _ w.heap.size 180 cs (0, 0) _ rfl (setRow_heap _ _ zs cs _ _ HZ.out) Tryz.underlying180 rfl HI.out) rfl ⟨cs, rfl, hsz, HG.out, below_setRow hb (Nat.le_refl _) cs⟩
end Go.Proofs.YtogdeaaphdlchaaGreatDoor
/-
  Rows side by side in one block: one step of the working off.
-/
namespace Go.Proofs.YtogdeaaphdlchaaGreatDoor
open Go.RowKit Go.Deep Gf

def rw64 (G : Nat → Nat) (i : Nat) : List Nat := (List.range 64).map fun j => G (i * 64 + j)
def rowsG (G : Nat → Nat) (n : Nat) : List (List Nat) := (List.range n).map (rw64 G)
theorem vec_rw (G : Nat → Nat) (i j : Nat) : vec (rw64 G i) j = if j < 64 then G (i * 64 + j) else 0 := by
  unfold vec rw64
  by_cases h : j < 64
  · simp [h]
  · simp [h]
theorem rowsG_len (G : Nat → Nat) (n : Nat) : (rowsG G n).length = n := by simp [rowsG]
theorem rowsG_get (G : Nat → Nat) (n i : Nat) (h : i < (rowsG G n).length) : (rowsG G n)[i] = rw64 G i := by simp [rowsG]
theorem rowsG_byte {G : Nat → Nat} (hG : ∀ x, G x < 256) (n : Nat) : ∀ l ∈ rowsG G n, ∀ x ∈ l, x < 256 := by
  intro l hl x hx
  obtain ⟨i, _, rfl⟩ := List.mem_map.1 hl
  obtain ⟨j, _, rfl⟩ := List.mem_map.1 hx
  exact hG _
/-- rows p and r are exchanged -/
def swG (G : Nat → Nat) (p r x : Nat) : Nat := if x / 64 = r then G (p * 64 + x % 64) else if x / 64 = p then G (r * 64 + x % 64) else G x
theorem swG_lt {G : Nat → Nat} (hG : ∀ x, G x < 256) (p r x : Nat) : swG G p r x < 256 := by
  unfold swG; split
  · exact hG _
  · split <;> exact hG _
theorem swG_at (G : Nat → Nat) (p r i j : Nat) (hj : j < 64) : swG G p r (i * 64 + j) = if i = r then G (p * 64 + j) else if i = p then G (r * 64 + j) else G (i * 64 + j) := by
  have e1 : (i * 64 + j) / 64 = i := by omega
  have e2 : (i * 64 + j) % 64 = j := by omega
  unfold swG
  rw [e1, e2]
/-- one column is done -/
def nxG (G : Nat → Nat) (p r c n : Nat) : Nat → Nat := wk (swG G p r) r c (gi (G (p * 64 + c))) (max n (r + 1))
theorem nxG_lt {G : Nat → Nat} (hG : ∀ x, G x < 256) (p r c n x : Nat) : nxG G p r c n x < 256 := wk_lt (swG_lt hG p r) _ _ _ _
theorem nxG_at (G : Nat → Nat) (p r c n i j : Nat) (_hc : c < 64) (hj : j < 64) (hi : r < i) (hin : i < n) : nxG G p r c n (i * 64 + j) = if c ≤ j then swG G p r (i * 64 + j) ^^^ gm (gm (swG G p r (i * 64 + c)) (gi (G (p * 64 + c)))) (G (p * 64 + j)) else swG G p r (i * 64 + j) := by
  have e1 : (i * 64 + j) / 64 = i := by omega
  have e2 : (i * 64 + j) % 64 = j := by omega
  unfold nxG wk
  rw [e1, e2, swG_at G p r r j hj, if_pos rfl]
  by_cases h : c ≤ j
  · rw [if_pos h, if_pos (by omega)]
  · rw [if_neg h, if_neg (by omega)]
theorem nxG_row {G : Nat → Nat} {p r c n i : Nat} (hG : ∀ x, G x < 256) (hc : c < 64) (hp : p < n) (hrp : r ≤ p) (hpc : G (p * 64 + c) ≠ 0) (hz : ∀ i, r ≤ i → i < n → ∀ j, j < c → G (i * 64 + j) = 0) (hi : r < i) (hin : i < n) :
    ∃ f, f < 256 ∧ vec (rw64 (nxG G p r c n) i) = addV (vec (rw64 G (if i = p then r else i))) f (vec (rw64 G p)) ∧ vec (rw64 (nxG G p r c n) i) c = 0 := by
  have hsw : ∀ j, j < 64 → swG G p r (i * 64 + j) = G ((if i = p then r else i) * 64 + j) := by
    intro j hj
    rw [swG_at G p r i j hj, if_neg (by omega)]
    split <;> rfl
  refine ⟨gm (swG G p r (i * 64 + c)) (gi (G (p * 64 + c))), gm_lt _ (swG_lt hG _ _ _), ?_, ?_⟩
  · funext j
    show vec (rw64 (nxG G p r c n) i) j = vec (rw64 G (if i = p then r else i)) j ^^^ gm _ (vec (rw64 G p) j)
    rw [vec_rw, vec_rw, vec_rw]
    by_cases hj : j < 64
    · rw [if_pos hj, if_pos hj, if_pos hj, nxG_at G p r c n i j hc hj hi hin, hsw j hj]
      by_cases h : c ≤ j
      · rw [if_pos h]
      · rw [if_neg h, hz p hrp hp j (by omega), gm_zero, Nat.xor_zero]
    · rw [if_neg hj, if_neg hj, if_neg hj, gm_zero]
      exact (Nat.xor_self 0).symm
  · rw [vec_rw, if_pos hc, nxG_at G p r c n i c hc hc hi hin, if_pos (Nat.le_refl _)]
    exact off_zero (swG_lt hG _ _ _) (hG _) hpc
theorem grid_pivot {G : Nat → Nat} {p r c n m k : Nat} (hG : ∀ x, G x < 256) (hc : c < 64) (hp : p < n) (hrp : r ≤ p) (hpc : G (p * 64 + c) ≠ 0) (hz : ∀ i, r ≤ i → i < n → ∀ j, j < c → G (i * 64 + j) = 0)
    (ht : Taken m (Rem (rowsG (nxG G p r c n) n) (r + 1)) (c + 1) k) : Taken (m + 1) (Rem (rowsG G n) r) c (k + 1) := by
  refine taken_pivot (p := p) (T' := rowsG (nxG G p r c n) n) (rowsG_byte hG n) (rowsG_byte (nxG_lt hG p r c n) n) (by rw [rowsG_len, rowsG_len]) hrp (by rw [rowsG_len]; exact hp) ?_ ?_ ht
  · rw [rowsG_get, vec_rw, if_pos hc]; exact hpc
  · intro i hi hri
    rw [rowsG_len] at hi
    obtain ⟨f, hf, e, h0⟩ := nxG_row hG hc hp hrp hpc hz hri hi
    refine ⟨f, by rw [rowsG_len]; split <;> omega, hf, ?_, ?_⟩
    · rw [rowsG_get, rowsG_get, rowsG_get]; exact e
    · rw [rowsG_get]; exact h0
/-- the state of the working off -/
structure GI (D : List (List Nat)) (c r n : Nat) (G : Nat → Nat) : Prop where
  byt : ∀ x, G x < 256
  rle : r ≤ n
  zer : ∀ i, r ≤ i → i < n → ∀ j, j < c → G (i * 64 + j) = 0
  tak : ∀ k, Taken (64 - c) (Rem (rowsG G n) r) c k → RankIs D (r + k)
theorem GI.skip {D : List (List Nat)} {c r n : Nat} {G : Nat → Nat} (h : GI D c r n G) (hc : c < 64) (hz : ∀ i, r ≤ i → i < n → G (i * 64 + c) = 0) : GI D (c + 1) r n G :=
  { h with
    zer := fun i hr hi j hj => by
      by_cases e : j = c
      · subst e; exact hz i hr hi
      · exact h.zer i hr hi j (by omega)
    tak := fun k hk => by
      refine h.tak k ?_
      have e : 64 - c = 64 - (c + 1) + 1 := by omega
      rw [e]
      refine taken_skip (fun i hi hr => ?_) hk
      rw [rowsG_get, vec_rw, if_pos hc]
      rw [rowsG_len] at hi
      exact hz i hr hi }
theorem GI.pivot {D : List (List Nat)} {c r n p : Nat} {G : Nat → Nat} (h : GI D c r n G) (hc : c < 64) (hrp : r ≤ p) (hp : p < n) (hpc : G (p * 64 + c) ≠ 0) : GI D (c + 1) (r + 1) n (nxG G p r c n) where
  byt := nxG_lt h.byt p r c n
  rle := by omega
  zer := fun i hr hi j hj => by
    obtain ⟨f, _, e, h0⟩ := nxG_row h.byt hc hp hrp hpc h.zer (show r < i by omega) hi
    by_cases ej : j = c
    · subst ej
      rw [vec_rw, if_pos hc] at h0
      exact h0
    · have e2 := congrFun e j
      have hz1 := h.zer (if i = p then r else i) (by split <;> omega) (by split <;> omega) j (by omega)
      have hz2 := h.zer p hrp hp j (by omega)
      rw [vec_rw, if_pos (by omega)] at e2
      rw [e2]
      show vec (rw64 G (if i = p then r else i)) j ^^^ gm f (vec (rw64 G p) j) = 0
      generalize (if i = p then r else i) = q at *
      have hj64 : j < 64 := by omega
      rw [vec_rw, vec_rw, if_pos hj64, if_pos hj64, hz1, hz2, gm_zero]
      exact Nat.xor_self 0
  tak := fun k hk => by
    have e : r + 1 + k = r + (k + 1) := by omega
    rw [e]
    refine h.tak (k + 1) ?_
    have e : 64 - c = 64 - (c + 1) + 1 := by omega
    rw [e]
    exact grid_pivot h.byt hc hp hrp hpc h.zer hk
theorem GI.done {D : List (List Nat)} {r n : Nat} {G : Nat → Nat} (h : GI D 64 r n G) : RankIs D r :=
  h.tak 0 rfl
theorem gridOf_lt {D : List (List Nat)} (hb : ∀ l ∈ D, ∀ x ∈ l, x < 256) (x : Nat) : gridOf D x < 256 := by
  unfold gridOf
  by_cases h : x / 64 < D.length
  · have e : D.getD (x / 64) [] = D[x / 64] := by simp [h]
    rw [e]; exact getD_lt (hb _ (List.getElem_mem h)) _
  · have e : D.getD (x / 64) [] = [] := by simp [List.getElem?_eq_none (Nat.not_lt.1 h)]
    rw [e]; simp
theorem GI.start {D : List (List Nat)} (hb : ∀ l ∈ D, ∀ x ∈ l, x < 256) (hf : FitG D) : GI D 0 0 D.length (gridOf D) where
  byt := gridOf_lt hb
  rle := Nat.zero_le _
  zer := fun _ _ _ j hj => absurd hj (Nat.not_lt_zero _)
  tak := fun k hk => by
    rw [Nat.zero_add]
    have e : Rem (rowsG (gridOf D) D.length) 0 = Rem D 0 := rem_congr (by rw [rowsG_len]) (fun i h1 h2 => by
      rw [rowsG_get]
      funext j
      rw [vec_rw]
      have hg : D.getD i [] = D[i] := by simp [h2]
      by_cases hj : j < 64
      · rw [if_pos hj]
        have e1 : (i * 64 + j) / 64 = i := by omega
        have e2 : (i * 64 + j) % 64 = j := by omega
        unfold gridOf vec
        rw [e1, e2, hg]
      · rw [if_neg hj]
        have := hf.2 i h2
        unfold vec
        simp [List.getElem?_eq_none (show (D[i]).length ≤ j by omega)]) 0
    rw [e] at hk
    exact hk
end Go.Proofs.YtogdeaaphdlchaaGreatDoor
