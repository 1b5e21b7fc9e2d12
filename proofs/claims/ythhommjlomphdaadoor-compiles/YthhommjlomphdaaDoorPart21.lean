import Derived.Test.YthhommjlomphdaaDoorPart20
import Derived.Test.YthhommjlomphdaaDoorPart06
/-
  The program's Run: what holds between two steps, and how a step turns it.
-/
namespace Go.Proofs.YthhommjlomphdaaDoor
open Go.RowKit Go.Deep Gf

theorem addRow_len (x y : List Nat) (c : Nat) : (addRow x y c).length = x.length := by simp [addRow]
theorem addRow_lt {x y : List Nat} {c : Nat} (hx : ∀ a ∈ x, a < 256) (hc : c < 256) : ∀ a ∈ addRow x y c, a < 256 := by
  intro a ha
  simp only [addRow, List.mem_map, List.mem_range] at ha
  obtain ⟨j, _, rfl⟩ := ha
  exact Nat.xor_lt_two_pow (n := 8) (getD_lt hx j) (gm_lt _ hc)
theorem addTimes_row (b fb n c : Nat) (x y : List Nat) (w : World) (hc : c < 256) (hx : Brow w b x) (hy : Brow w fb y) (hxl : x.length = n) (hyl : y.length = n) (hne : fb ≠ b) (hx2 : ∀ a ∈ x, a < 256) (hy2 : ∀ a ∈ y, a < 256) (hn : n ≤ 100000) :
    Calls Tryd.prog 67 #[.slice (some ⟨b, 0, none⟩) n n, .slice (some ⟨fb, 0, none⟩) n n, .int .u8 c] w fun e w' => e = .returned (.tuple #[]) ∧ Brow w' b (addRow x y c) ∧ w.grownBy w' (some b) := by
  have hr : w.rowIs b 5 n (tv (fun i => x.getD i 0)) := by
    have := hx
    unfold Brow at this
    rw [hxl] at this
    exact this
  refine (addTimes_some b 5 n 0 n n fb 0 n c (fun i => x.getD i 0) (fun i => y.getD i 0) w hc hr (fun j => getD_lt hx2 j) (fun j => getD_lt hy2 j) (by omega) (by omega) (fun i hi => by rw [Nat.zero_add]; exact hy.cell i (by omega)) (.inl hne)).mono ?_
  rintro e w' ⟨rfl, h1, h2⟩
  refine ⟨rfl, ?_, h2⟩
  unfold Brow
  rw [addRow_len, hxl]
  refine h1.congr fun j hj => ?_
  have hjx : j < x.length := by omega
  unfold tv vb addTo addRow
  rw [if_pos (by omega)]
  simp [hjx]
structure Rn (w0 : World) (B : Nat) (P : List St) (D R0 : List (List Nat)) (n r gR k : Nat) (vO : Value) (T : List (Nat × Nat × List Nat)) (O : List (Int × Nat × Nat × List Nat)) (wr : World) : Prop where
  tab : Tab wr B (.slice (some ⟨gR, 0, none⟩) r r) T
  hold : Holds T n (regTo P D R0 k)
  len : ∀ l ∈ regTo P D R0 k, l.length = n
  outs : Outs 95 wr B vO O
  vals : O.map (fun q => (q.1, q.2.2.2.take q.2.2.1)) = outTo P D R0 k
  apart : ∀ p ∈ T, ∀ q ∈ O, p.1 ≠ q.2.1
  below : Below B w0 wr
  size : B ≤ wr.heap.size
variable {w0 : World} {B : Nat} {P : List St} {D R0 : List (List Nat)} {n r gR k : Nat} {vO : Value} {T : List (Nat × Nat × List Nat)} {O : List (Int × Nat × Nat × List Nat)} {w : World}
theorem Rn.next (h : Rn w0 B P D R0 n r gR k vO T O w) {w' : World} (hb : Below w.heap.size w w') : Rn w0 B P D R0 n r gR k vO T O w' :=
  ⟨h.tab.below hb, h.hold, h.len, h.outs.below hb, h.vals, h.apart, h.below.trans (hb.mono h.size), Nat.le_trans h.size hb.size⟩
theorem Rn.tlen (h : Rn w0 B P D R0 n r gR k vO T O w) : T.length = r := by
  rcases h.tab.shape with ⟨e, _⟩ | ⟨g, cap, e, _⟩
  · simp at e
  · simp at e
    omega
theorem Rn.reg (h : Rn w0 B P D R0 n r gR k vO T O w) (A : Nat) (hA : A < r) : ∃ g, (∃ hT : A < T.length, T[A] = (g, n, (regTo P D R0 k).getD A [])) ∧ w.cell? ⟨gR, A, none⟩ = some (.slice (some ⟨g, 0, none⟩) n n) ∧ Brow w g ((regTo P D R0 k).getD A []) ∧ ((regTo P D R0 k).getD A []).length = n ∧ (∀ x ∈ (regTo P D R0 k).getD A [], x < 256) ∧ g ≠ gR ∧ B ≤ g ∧ g < w.heap.size ∧ gR < w.heap.size ∧ B ≤ gR := by
  have hl := h.tlen
  have hT : A < T.length := by omega
  have hR := holds_len h.hold
  have hRA : A < (regTo P D R0 k).length := by omega
  have hat := h.hold.at hT hRA
  have e1 : (regTo P D R0 k).getD A [] = (regTo P D R0 k)[A] := by simp [hRA]
  have hn := h.len _ (List.getElem_mem hRA)
  obtain ⟨a1, a2, a3, a4, a5⟩ := h.tab.row _ (List.getElem_mem hT)
  rw [e1]
  have e2 : T[A] = (T[A].1, n, (regTo P D R0 k)[A]) := by rw [← hat]
  have e3 : T[A].2.2 = (regTo P D R0 k)[A] := by rw [hat]
  have e4 : T[A].2.1 = n := by rw [hat]
  rcases h.tab.shape with ⟨e, _⟩ | ⟨g, cap, e, hg, _, _, hgl, hc, _, hne⟩
  · simp at e
  · simp at e
    obtain ⟨rfl, _⟩ := e
    have hcA := hc A hT
    unfold hdr at hcA
    rw [e3, e4, hn] at hcA
    rw [e3] at a2 a5
    exact ⟨T[A].1, ⟨hT, e2⟩, hcA, a2, hn, a5, hne _ (List.getElem_mem hT), a1, a2.lt, hgl, hg⟩
theorem Rn.write (h : Rn w0 B P D R0 n r gR k vO T O w) {w' : World} {A g : Nat} {l0 src : List Nat} (hT : ∃ hT : A < T.length, T[A] = (g, n, l0)) (hl0 : l0.length = n) (hg : w.grownBy w' (some g)) (hB : Brow w' g src) (hl : src.length = n) (hx : ∀ x ∈ src, x < 256)
    (hr : regTo P D R0 (k + 1) = (regTo P D R0 k).set A src) (ho : outTo P D R0 (k + 1) = outTo P D R0 k) : ∃ T', Rn w0 B P D R0 n r gR (k + 1) vO T' O w' := by
  obtain ⟨hA, e⟩ := hT
  have hmem := List.getElem_mem hA
  obtain ⟨a1, a2, _⟩ := h.tab.row _ hmem
  have e1 : T[A].1 = g := by rw [e]
  have e2 : T[A].2.2 = l0 := by rw [e]
  rw [e1] at a1 a2
  refine ⟨T.set A (T[A].1, T[A].2.1, src), ?_, ?_, ?_, ?_, ?_, ?_, ?_, ?_⟩
  · exact h.tab.wrote hA (by rw [e1]; exact hg) (by rw [e1]; exact hB) (by rw [e2]; omega) hx
  · rw [hr]; exact holds_set h.hold A hA src
  · rw [hr]
    intro l hm
    rcases List.mem_or_eq_of_mem_set hm with hm | rfl
    · exact h.len l hm
    · exact hl
  · exact h.outs.aside a2 hg (fun q hq e' => h.apart _ hmem q hq (by rw [e1, e']))
  · rw [ho]; exact h.vals
  · intro p hp q hq
    rcases List.mem_or_eq_of_mem_set hp with hp | rfl
    · exact h.apart p hp q hq
    · exact h.apart _ hmem q hq
  · exact grown_below h.below hg h.size a1
  · exact Nat.le_trans h.size hg.size
theorem Rn.reg_ne (h : Rn w0 B P D R0 n r gR k vO T O w) {A X g g' : Nat} {l l' : List Nat} (hT : ∃ hT : A < T.length, T[A] = (g, n, l)) (hX : ∃ hT : X < T.length, T[X] = (g', n, l')) (hne : A ≠ X) : g' ≠ g := by
  obtain ⟨hA, e⟩ := hT
  obtain ⟨hX, e'⟩ := hX
  have hp := List.pairwise_iff_getElem.1 h.tab.nodup
  intro q
  have q1 : T[A].1 = T[X].1 := by rw [e, e']; exact q.symm
  rcases Nat.lt_or_gt_of_ne hne with h' | h'
  · exact hp A X (by simpa using hA) (by simpa using hX) h' (by simpa using q1)
  · exact hp X A (by simpa using hX) (by simpa using hA) h' (by simpa using q1.symm)
theorem tab_out_ne {w : World} {B B' : Nat} {g c m n : Nat} {xs ys : List Value} {vO : Value} (h : w.ownsRow B 44 1 (.slice (some ⟨g, 0, none⟩) c m) n xs) {n' : Nat} (h' : w.ownsRow B' 95 2 vO n' ys) : vO.ownBlock ≠ some g := by
  intro e
  rcases h.2 with ⟨h0, _⟩ | ⟨g1, cap, cur, e1, e2, e3, _⟩
  · simp at h0
  · simp at e1
    obtain ⟨rfl, _⟩ := e1
    rcases h'.2 with ⟨h0, _⟩ | ⟨g2, cap2, cur2, f1, f2, f3, _⟩
    · rw [h0] at e; simp [Value.ownBlock] at e
    · rw [f1] at e
      simp [Value.ownBlock] at e
      subst e
      rw [e3] at f3
      simp at f3
theorem outTo_len (P : List St) (D R0 : List (List Nat)) : ∀ k, (outTo P D R0 k).length ≤ k
  | 0 => Nat.le_refl _
  | k + 1 => by
    have := outTo_len P D R0 k
    unfold outTo outStep
    split <;> simp <;> omega
theorem Rn.olen (h : Rn w0 B P D R0 n r gR k vO T O w) : O.length ≤ k := by
  have := congrArg List.length h.vals
  rw [List.length_map] at this
  rw [this]; exact outTo_len P D R0 k
theorem Rn.put (h : Rn w0 B P D R0 n r gR k vO T O w) {w1 w3 : World} {o : Obj} {b m : Nat} {l : List Nat} {sh : Int} {vO' : Value} (hb : Below w.heap.size w w1) (hbb : w.heap.size ≤ b) (hB : Brow w1 b (l ++ List.replicate m 0)) (hl : l.length = n) (hn : n ≤ 100000) (hm : n + m ≤ 9223372036854775807) (hx : ∀ x ∈ l, x < 256)
    (hg : (w1.alloc o).grownBy w3 vO.ownBlock) (hown : w3.ownsRow B 95 2 vO' (O.length + 1) (outc O ++ [.int .i64 sh, .slice (some ⟨b, 0, none⟩) n (n + m)]))
    (hr : regTo P D R0 (k + 1) = regTo P D R0 k) (ho : outTo P D R0 (k + 1) = outTo P D R0 k ++ [(sh, l)]) : Rn w0 B P D R0 n r gR (k + 1) vO' T (O ++ [(sh, b, n, l ++ List.replicate m 0)]) w3 := by
  have h1 := (h.next hb).next ((Below.refl w1.heap.size w1).alloc (Nat.le_refl _) o)
  have hs := h.size
  have hs1 := hb.size
  have hll : (l ++ List.replicate m 0).length = n + m := by simp [hl]
  have hB1 := hB.alloc o
  refine ⟨?_, by rw [hr]; exact h.hold, by rw [hr]; exact h.len, ?_, ?_, ?_, ?_, ?_⟩
  · refine ⟨h1.tab.own.kept hg (.inr fun e => ?_), fun p hp => ?_, h1.tab.nodup⟩
    · exact tab_out_ne h1.tab.own h1.outs.own (by rw [← e]; rfl)
    · obtain ⟨a1, a2, a3⟩ := h1.tab.row p hp
      exact ⟨a1, a2.grown hg (fun e => out_ne h1.outs.own a2 e.symm), a3⟩
  · refine ⟨?_, fun q hq => ?_, ?_⟩
    · rw [outc_append]
      simpa [outc, hdr, hll, hl] using hown
    · rcases List.mem_append.1 hq with hq | hq
      · obtain ⟨a1, a2, a3⟩ := h1.outs.row q hq
        exact ⟨a1, a2.grown hg (fun e => out_ne h1.outs.own a2 e.symm), a3⟩
      · simp at hq
        subst hq
        refine ⟨by show B ≤ b; omega, hB1.grown hg (fun e => out_ne h1.outs.own hB1 e.symm), by show n ≤ (l ++ List.replicate m 0).length; omega, ⟨by show n ≤ 140737488355328; omega, by show (l ++ List.replicate m 0).length ≤ 9223372036854775807; omega⟩, ?_⟩
        intro x hx'
        rcases List.mem_append.1 hx' with hx' | hx'
        · exact hx x hx'
        · have := List.eq_of_mem_replicate hx'; omega
    · rw [List.map_append, List.nodup_append]
      refine ⟨h.outs.nodup, by simp, ?_⟩
      intro a ha c hc
      obtain ⟨q, hq, rfl⟩ := List.mem_map.1 ha
      simp at hc
      subst hc
      have := (h.outs.row q hq).2.1.lt
      omega
  · rw [ho, List.map_append, h.vals]
    simp [← hl]
  · intro p hp q hq
    rcases List.mem_append.1 hq with hq | hq
    · exact h.apart p hp q hq
    · simp at hq
      subst hq
      have := (h.tab.row p hp).2.1.lt
      show p.1 ≠ b
      omega
  · exact h1.below.grown hg h1.size (fun q hq => (h1.outs.own.lt q hq).1)
  · exact Nat.le_trans h1.size hg.size
end Go.Proofs.YthhommjlomphdaaDoor
/-
  The document's Run: what holds between two steps, and how a step turns it (as RunRel, for the document's outputs).
-/
namespace Go.Proofs.YthhommjlomphdaaDoor.Rf
open Go.RowKit Go.Deep Gf

theorem out_ne {w : World} {base : Nat} {v : Value} {n : Nat} {xs : List Value} (h : w.ownsRow base 78 2 v n xs) {b : Nat} {l : List Nat} (hb : Brow w b l) : v.ownBlock ≠ some b := by
  intro e
  rcases h.2 with ⟨h0, _⟩ | ⟨g, cap, cur, e1, e2, e3, _⟩
  · rw [h0] at e; simp [Value.ownBlock] at e
  · rw [e1] at e
    simp [Value.ownBlock] at e
    subst e
    obtain ⟨c, hc, _⟩ := hb
    rw [hc] at e3
    simp at e3
theorem outs_aside {w w' : World} {base : Nat} {v : Value} {O : List (Int × Nat × Nat × List Nat)} {b : Nat} {l : List Nat} (h : Outs 78 w base v O) (hb : Brow w b l) (hg : w.grownBy w' (some b)) (hne : ∀ q ∈ O, q.2.1 ≠ b) : Outs 78 w' base v O :=
  ⟨h.own.kept hg (.inr (out_ne h.own hb)), fun q hq => by
    obtain ⟨a, c, d⟩ := h.row q hq
    exact ⟨a, c.grown hg (by intro e; simp at e; exact hne q hq e), d⟩, h.nodup⟩
structure Rn (w0 : World) (B : Nat) (P : List St) (D R0 : List (List Nat)) (n r : Nat) (vR : Value) (k : Nat) (vO : Value) (T : List (Nat × Nat × List Nat)) (O : List (Int × Nat × Nat × List Nat)) (wr : World) : Prop where
  tab : Tab wr B vR T
  tl : T.length = r
  hold : Holds T n (regTo P D R0 k)
  len : ∀ l ∈ regTo P D R0 k, l.length = n
  outs : Outs 78 wr B vO O
  vals : O.map (fun q => (q.1, q.2.2.2.take q.2.2.1)) = outTo P D R0 k
  apart : ∀ p ∈ T, ∀ q ∈ O, p.1 ≠ q.2.1
  below : Below B w0 wr
  size : B ≤ wr.heap.size
variable {w0 : World} {B : Nat} {P : List St} {D R0 : List (List Nat)} {n r k : Nat} {vR vO : Value} {T : List (Nat × Nat × List Nat)} {O : List (Int × Nat × Nat × List Nat)} {w : World}
theorem Rn.next (h : Rn w0 B P D R0 n r vR k vO T O w) {w' : World} (hb : Below w.heap.size w w') : Rn w0 B P D R0 n r vR k vO T O w' :=
  ⟨h.tab.below hb, h.tl, h.hold, h.len, h.outs.below hb, h.vals, h.apart, h.below.trans (hb.mono h.size), Nat.le_trans h.size hb.size⟩
theorem Rn.reg (h : Rn w0 B P D R0 n r vR k vO T O w) {gR cap : Nat} (hv : vR = .slice (some ⟨gR, 0, none⟩) r cap) (A : Nat) (hA : A < r) : ∃ g, (∃ hT : A < T.length, T[A] = (g, n, (regTo P D R0 k).getD A [])) ∧ w.cell? ⟨gR, A, none⟩ = some (.slice (some ⟨g, 0, none⟩) n n) ∧ Brow w g ((regTo P D R0 k).getD A []) ∧ ((regTo P D R0 k).getD A []).length = n ∧ (∀ x ∈ (regTo P D R0 k).getD A [], x < 256) ∧ g ≠ gR ∧ B ≤ g ∧ g < w.heap.size ∧ gR < w.heap.size ∧ B ≤ gR := by
  have hl := h.tl
  have hT : A < T.length := by omega
  have hR := holds_len h.hold
  have hRA : A < (regTo P D R0 k).length := by omega
  have hat := h.hold.at hT hRA
  have e1 : (regTo P D R0 k).getD A [] = (regTo P D R0 k)[A] := by simp [hRA]
  have hn := h.len _ (List.getElem_mem hRA)
  obtain ⟨a1, a2, a3, a4, a5⟩ := h.tab.row _ (List.getElem_mem hT)
  rw [e1]
  have e2 : T[A] = (T[A].1, n, (regTo P D R0 k)[A]) := by rw [← hat]
  have e3 : T[A].2.2 = (regTo P D R0 k)[A] := by rw [hat]
  have e4 : T[A].2.1 = n := by rw [hat]
  rcases h.tab.shape with ⟨e, _⟩ | ⟨g, cap', e, hg, _, _, hgl, hc, _, hne⟩
  · rw [hv] at e; simp at e
  · rw [hv] at e
    simp at e
    obtain ⟨rfl, _⟩ := e
    have hcA := hc A hT
    unfold hdr at hcA
    rw [e3, e4, hn] at hcA
    rw [e3] at a2 a5
    exact ⟨T[A].1, ⟨hT, e2⟩, hcA, a2, hn, a5, hne _ (List.getElem_mem hT), a1, a2.lt, hgl, hg⟩
theorem Rn.shape (h : Rn w0 B P D R0 n r vR k vO T O w) (hr : 0 < r) : ∃ gR cap, vR = .slice (some ⟨gR, 0, none⟩) r cap := by
  have hl := h.tl
  rcases h.tab.shape with ⟨_, e⟩ | ⟨g, cap', e, _⟩
  · rw [e] at hl; simp at hl; omega
  · exact ⟨g, cap', by rw [e, hl]⟩
theorem Rn.write (h : Rn w0 B P D R0 n r vR k vO T O w) {w' : World} {A g : Nat} {l0 src : List Nat} (hT : ∃ hT : A < T.length, T[A] = (g, n, l0)) (hl0 : l0.length = n) (hg : w.grownBy w' (some g)) (hB : Brow w' g src) (hl : src.length = n) (hx : ∀ x ∈ src, x < 256)
    (hr : regTo P D R0 (k + 1) = (regTo P D R0 k).set A src) (ho : outTo P D R0 (k + 1) = outTo P D R0 k) : ∃ T', Rn w0 B P D R0 n r vR (k + 1) vO T' O w' := by
  obtain ⟨hA, e⟩ := hT
  have hmem := List.getElem_mem hA
  obtain ⟨a1, a2, _⟩ := h.tab.row _ hmem
  have e1 : T[A].1 = g := by rw [e]
  have e2 : T[A].2.2 = l0 := by rw [e]
  rw [e1] at a1 a2
  refine ⟨T.set A (T[A].1, T[A].2.1, src), ?_, by rw [List.length_set]; exact h.tl, ?_, ?_, ?_, ?_, ?_, ?_, ?_⟩
  · exact h.tab.wrote hA (by rw [e1]; exact hg) (by rw [e1]; exact hB) (by rw [e2]; omega) hx
  · rw [hr]; exact holds_set h.hold A hA src
  · rw [hr]
    intro l hm
    rcases List.mem_or_eq_of_mem_set hm with hm | rfl
    · exact h.len l hm
    · exact hl
  · exact outs_aside h.outs a2 hg (fun q hq e' => h.apart _ hmem q hq (by rw [e1, e']))
  · rw [ho]; exact h.vals
  · intro p hp q hq
    rcases List.mem_or_eq_of_mem_set hp with hp | rfl
    · exact h.apart p hp q hq
    · exact h.apart _ hmem q hq
  · exact grown_below h.below hg h.size a1
  · exact Nat.le_trans h.size hg.size
theorem Rn.reg_ne (h : Rn w0 B P D R0 n r vR k vO T O w) {A X g g' : Nat} {l l' : List Nat} (hT : ∃ hT : A < T.length, T[A] = (g, n, l)) (hX : ∃ hT : X < T.length, T[X] = (g', n, l')) (hne : A ≠ X) : g' ≠ g := by
  obtain ⟨hA, e⟩ := hT
  obtain ⟨hX, e'⟩ := hX
  have hp := List.pairwise_iff_getElem.1 h.tab.nodup
  intro q
  have q1 : T[A].1 = T[X].1 := by rw [e, e']; exact q.symm
  rcases Nat.lt_or_gt_of_ne hne with h' | h'
  · exact hp A X (by simpa using hA) (by simpa using hX) h' (by simpa using q1)
  · exact hp X A (by simpa using hX) (by simpa using hA) h' (by simpa using q1.symm)
theorem tab_out_ne {w : World} {B B' : Nat} {g n : Nat} {xs ys : List Value} {v vO : Value} (h : w.ownsRow B 44 1 v n xs) {n' : Nat} (h' : w.ownsRow B' 78 2 vO n' ys) (hv : v.ownBlock = some g) : vO.ownBlock ≠ some g := by
  intro e
  rcases h.2 with ⟨h0, _⟩ | ⟨g1, cap, cur, e1, e2, e3, _⟩
  · rw [h0] at hv; simp [Value.ownBlock] at hv
  · rw [e1] at hv
    simp [Value.ownBlock] at hv
    subst hv
    rcases h'.2 with ⟨h0, _⟩ | ⟨g2, cap2, cur2, f1, f2, f3, _⟩
    · rw [h0] at e; simp [Value.ownBlock] at e
    · rw [f1] at e
      simp [Value.ownBlock] at e
      subst e
      rw [e3] at f3
      simp at f3
theorem Rn.olen (h : Rn w0 B P D R0 n r vR k vO T O w) : O.length ≤ k := by
  have := congrArg List.length h.vals
  rw [List.length_map] at this
  rw [this]; exact outTo_len P D R0 k
theorem Rn.put (h : Rn w0 B P D R0 n r vR k vO T O w) {w1 w3 : World} {o : Obj} {b m : Nat} {l : List Nat} {sh : Int} {vO' : Value} (hb : Below w.heap.size w w1) (hbb : w.heap.size ≤ b) (hB : Brow w1 b (l ++ List.replicate m 0)) (hl : l.length = n) (hn : n ≤ 100000) (hm : n + m ≤ 9223372036854775807) (hx : ∀ x ∈ l, x < 256)
    (hg : (w1.alloc o).grownBy w3 vO.ownBlock) (hown : w3.ownsRow B 78 2 vO' (O.length + 1) (outc O ++ [.int .i64 sh, .slice (some ⟨b, 0, none⟩) n (n + m)]))
    (hr : regTo P D R0 (k + 1) = regTo P D R0 k) (ho : outTo P D R0 (k + 1) = outTo P D R0 k ++ [(sh, l)]) : Rn w0 B P D R0 n r vR (k + 1) vO' T (O ++ [(sh, b, n, l ++ List.replicate m 0)]) w3 := by
  have h1 := (h.next hb).next ((Below.refl w1.heap.size w1).alloc (Nat.le_refl _) o)
  have hs := h.size
  have hs1 := hb.size
  have hll : (l ++ List.replicate m 0).length = n + m := by simp [hl]
  have hB1 := hB.alloc o
  refine ⟨?_, h.tl, by rw [hr]; exact h.hold, by rw [hr]; exact h.len, ?_, ?_, ?_, ?_, ?_⟩
  · refine ⟨?_, fun p hp => ?_, h1.tab.nodup⟩
    · by_cases hv : vR.ownBlock = none
      · rcases h1.tab.own.2 with h0 | ⟨g1, cap, cur, e1, _⟩
        · exact ⟨h1.tab.own.1, .inl h0⟩
        · rw [e1] at hv; simp [Value.ownBlock] at hv
      · obtain ⟨gv, hgv⟩ : ∃ gv, vR.ownBlock = some gv := by
          cases hq : vR.ownBlock with
          | none => exact absurd hq hv
          | some gv => exact ⟨gv, rfl⟩
        exact h1.tab.own.kept hg (.inr fun e => tab_out_ne h1.tab.own h1.outs.own hgv (by rw [← e]; exact hgv))
    · obtain ⟨a1, a2, a3⟩ := h1.tab.row p hp
      exact ⟨a1, a2.grown hg (fun e => out_ne h1.outs.own a2 e.symm), a3⟩
  · refine ⟨?_, fun q hq => ?_, ?_⟩
    · rw [outc_append]
      simpa [outc, hdr, hll, hl] using hown
    · rcases List.mem_append.1 hq with hq | hq
      · obtain ⟨a1, a2, a3⟩ := h1.outs.row q hq
        exact ⟨a1, a2.grown hg (fun e => out_ne h1.outs.own a2 e.symm), a3⟩
      · simp at hq
        subst hq
        refine ⟨by show B ≤ b; omega, hB1.grown hg (fun e => out_ne h1.outs.own hB1 e.symm), by show n ≤ (l ++ List.replicate m 0).length; omega, ⟨by show n ≤ 140737488355328; omega, by show (l ++ List.replicate m 0).length ≤ 9223372036854775807; omega⟩, ?_⟩
        intro x hx'
        rcases List.mem_append.1 hx' with hx' | hx'
        · exact hx x hx'
        · have := List.eq_of_mem_replicate hx'; omega
    · rw [List.map_append, List.nodup_append]
      refine ⟨h.outs.nodup, by simp, ?_⟩
      intro a ha c hc
      obtain ⟨q, hq, rfl⟩ := List.mem_map.1 ha
      simp at hc
      subst hc
      have := (h.outs.row q hq).2.1.lt
      omega
  · rw [ho, List.map_append, h.vals]
    simp [← hl]
  · intro p hp q hq
    rcases List.mem_append.1 hq with hq | hq
    · exact h.apart p hp q hq
    · simp at hq
      subst hq
      have := (h.tab.row p hp).2.1.lt
      show p.1 ≠ b
      omega
  · exact h1.below.grown hg h1.size (fun q hq => (h1.outs.own.lt q hq).1)
  · exact Nat.le_trans h1.size hg.size
end Go.Proofs.YthhommjlomphdaaDoor.Rf
