import Derived.Test.YthhommjlomphdabDoorPart05
import Derived.Test.YthhommjlomphdabDoorPart06
import Derived.Test.YthhommjlomphdabDoorRefRank
import Derived.WalkMore
import Derived.Deep.MidRow
/-
  The program's rows side by side: how they are worked off one another.
-/
namespace Go.Proofs.YthhommjlomphdabDoor
open Go.RowKit Go.Deep Gf

def FtPost (D : List (List Nat)) (w : World) (e : Ending) (w' : World) : Prop := (FitG D → e = .returned (.bool true)) ∧ (¬ FitG D → e = .returned (.bool false)) ∧ w' = w
def FtR (D : List (List Nat)) (i : Value) : Prop := ∃ k : Nat, k ≤ D.length ∧ i = .int .i64 (k : Nat) ∧ ∀ j (hj : j < D.length), j < k → (D[j]).length ≤ 64
/-- column c is worked off row top in the rows from top + 1 to k - 1; iv: the inverse of row top's number there -/
def wk (G : Nat → Nat) (top c iv k x : Nat) : Nat := if top < x / 64 ∧ x / 64 < k ∧ c ≤ x % 64 then G x ^^^ gm (gm (G (x / 64 * 64 + c)) iv) (G (top * 64 + x % 64)) else G x
theorem wk_start (G : Nat → Nat) (top c iv : Nat) : wk G top c iv (top + 1) = G := by
  funext x; unfold wk; rw [if_neg (by omega)]
theorem wk_lt {G : Nat → Nat} (h : ∀ x, G x < 256) {iv : Nat} (top c k x : Nat) : wk G top c iv k x < 256 := by
  unfold wk
  split
  · exact xlt (h x) (gm_lt _ (gm_lt _ (h _)))
  · exact h x
theorem wk_top (G : Nat → Nat) (top c iv k j : Nat) (hj : j < 64) : wk G top c iv k (top * 64 + j) = G (top * 64 + j) := by
  unfold wk; rw [if_neg (by omega)]
theorem wk_next (G : Nat → Nat) (top c iv k j : Nat) (hj : j < 64) : wk G top c iv k (k * 64 + j) = G (k * 64 + j) := by
  unfold wk; rw [if_neg (by omega)]
theorem wk_step (G : Nat → Nat) (top c iv k : Nat) (ht : top < k) (hc : c < 64) : addTo (wk G top c iv k) (fun i => G (top * 64 + c + i)) (gm (G (k * 64 + c)) iv) (k * 64 + c) (64 - c) = wk G top c iv (k + 1) := by
  funext x
  unfold addTo
  by_cases h : k * 64 + c ≤ x ∧ x < k * 64 + c + (64 - c)
  · have e1 : x / 64 = k := by omega
    have e2 : top * 64 + c + (x - (k * 64 + c)) = top * 64 + x % 64 := by omega
    rw [if_pos h]
    unfold wk
    rw [if_neg (by omega), if_pos (by omega), e1]
    show _ ^^^ gm _ (G (top * 64 + c + (x - (k * 64 + c)))) = _
    rw [e2]
  · rw [if_neg h]
    unfold wk
    by_cases h2 : top < x / 64 ∧ x / 64 < k ∧ c ≤ x % 64
    · rw [if_pos h2, if_pos (by omega)]
    · rw [if_neg h2, if_neg (by omega)]
theorem grid_slice (w : World) (b o c : Nat) (hc : c < 64) : (Instr.sliceAt 120 (.pointer (some ⟨b, o, none⟩)) (some (.int .i64 (c : Int))) none none).run Tryd.prog w = .ok (.slice (some ⟨b, o + c, none⟩) (64 - c) (64 - c)) w := by
  have hl : Tryd.prog.arrayLen 120 = 64 := by kernel_rfl
  have hu : Tryd.prog.underlying 120 = some (.array (Tryd.prog.arrayLen 120) (Tryd.prog.elem 120)) := by kernel_rfl
  have hs : ∀ w, (sizeOf (Tryd.prog.elem 120)).run Tryd.prog w = .ok 1 w := by
    have he : Tryd.prog.elem 120 = 5 := by kernel_rfl
    rw [he]
    intro w
    go_simp
  rw [run_sliceAt_array_l w 120 _ hu .i64 (c : Int) (by omega) (by rw [hl]; omega), hs, hl]
  simp [slicedAt, Result.andThen]
  rw [if_neg (by omega)]
  simp [Addr.add]
def WkR (w : World) (b t top c iv n : Nat) (G : Nat → Nat) (i : Value) (wr : World) : Prop :=
  ∃ k : Nat, top < k ∧ k ≤ max n (top + 1) ∧ i = .int .i64 (k : Nat) ∧ wr.rowIs b t 4096 (tv (wk G top c iv k)) ∧ w.grownBy wr (some b)
end Go.Proofs.YthhommjlomphdabDoor
/-
  Rows are laid side by side.
-/
namespace Go.Proofs.YthhommjlomphdabDoor
open Go.RowKit Go.Deep Gf

def gridOf (D : List (List Nat)) (x : Nat) : Nat := (D.getD (x / 64) []).getD (x % 64) 0
def gridTo (D : List (List Nat)) (k x : Nat) : Nat := if x / 64 < k then gridOf D x else 0
theorem row_heap {w : World} {b t n : Nat} {f : Nat → Value} (h : w.rowIs b t n f) : w.heap[b]? = some (.cells ((List.range n).map f).toArray t (0, 0)) := by
  obtain ⟨c, hc, hs, hg⟩ := h
  have : c = ((List.range n).map f).toArray := by
    apply Array.ext
    · simp [hs]
    · intro i h1 h2
      have := hg i (by omega)
      rw [Array.getElem?_eq_getElem h1] at this
      simp at this
      simp [this]
  rw [← this]; exact hc
/-- copy into the middle of a block -/
theorem wpList_cpg {w : World} {ops : Array Oper} {rest : List Oper} {o : Oper} {a : Act} {Q : Exit → Act → World → Prop} (hgd : o.guard = none) (d s : Operand)
    (ho : o.op = .call { callee := .builtin .copy, args := #[d, s], argTypes := #[59, 59] }) (g off n cap N t : Nat) (v : Value) (hd : a.eval d = .slice (some ⟨g, off, none⟩) n cap) (hs : a.eval s = v)
    (F : Nat → Nat) (src : List Nat) (hB : w.rowIs g t N (tv F)) (hS : Bs w v src) (hle : src.length ≤ n) (hn : off + n ≤ N)
    (h : ∀ w', w'.rowIs g t N (tv (fun x => if off ≤ x ∧ x < off + src.length then src.getD (x - off) 0 else F x)) → Below g w w' → wpList Tryd.prog ops Q rest (a.put o.dst (goInt src.length)) w') : wpList Tryd.prog ops Q (o :: rest) a w := by
  obtain ⟨ao, c, rfl, h1, h2, h3, h4⟩ := hS
  refine wpList_copy_splice hgd d s 59 59 ho 5 Tryd.underlying59 (by kernel_rfl) (some ⟨g, off, none⟩) ao n cap src.length c hd hs g off _ t (row_heap hB) (src.map (fun x => Value.int .u8 ((x : Nat) : Int))) ?_ ?_ ?_ ?_ g w (Below.refl _ _) (Nat.le_refl _) ?_
  · rw [List.length_map]
    show src.length = min src.length n
    omega
  · intro hp
    rw [List.length_map] at hp
    obtain ⟨b, off, rfl, hc⟩ := h4 (by intro e; rw [e] at hp; simp at hp)
    refine ⟨rfl, _, rfl, fun j u hj => ?_⟩
    have hjl : j < src.length := by
      have := List.getElem?_eq_some_iff.1 hj
      obtain ⟨q, _⟩ := this
      simpa using q
    rw [Addr.add_mid, hc j hjl]
    simp [hjl] at hj
    simp [hjl, hj]
  · simp; omega
  · intro u hu
    obtain ⟨x, _, rfl⟩ := List.mem_map.1 hu
    rfl
  · intro w' hw' hb'
    have hw := hw'.out
    rw [List.length_map]
    refine h w' ⟨_, hw, ?_, fun i hi => ?_⟩ hb'
    · rw [List.size_toArray, length_splice _ _ _ (by simp; omega)]; simp
    · unfold splice
      rw [List.getElem?_toArray]
      by_cases q1 : i < off
      · rw [List.getElem?_append_left (by simp; omega)]
        have q0 : ¬ (off ≤ i ∧ i < off + src.length) := by omega
        simp only [tv, if_neg q0]
        simp [q1, hi, tv]
      · rw [List.getElem?_append_right (by simp; omega)]
        have e0 : (((List.range N).map (tv F)).take off).length = off := by simp; omega
        rw [e0]
        by_cases q2 : i < off + src.length
        · rw [List.getElem?_append_left (by simp; omega)]
          have q3 : i - off < src.length := by omega
          simp [q3, tv, q2, Nat.not_lt.1 q1]
        · rw [List.getElem?_append_right (by simp; omega)]
          simp only [List.length_map]
          rw [List.getElem?_drop]
          have e1 : off + src.length + (i - off - src.length) = i := by omega
          rw [e1]
          simp [hi, tv, q2]
theorem gridTo_step (D : List (List Nat)) (k : Nat) (hk : k < D.length) (hl : (D[k]).length ≤ 64) : (fun x => if k * 64 ≤ x ∧ x < k * 64 + (D[k]).length then (D[k]).getD (x - k * 64) 0 else gridTo D k x) = gridTo D (k + 1) := by
  have hg : D.getD k [] = D[k] := by simp [hk]
  funext x
  unfold gridTo gridOf
  by_cases h : k * 64 ≤ x ∧ x < k * 64 + (D[k]).length
  · rw [if_pos h, if_pos (by omega)]
    have e1 : x / 64 = k := by omega
    have e2 : x % 64 = x - k * 64 := by omega
    rw [e1, hg, e2]
  · rw [if_neg h]
    by_cases h2 : x / 64 < k
    · rw [if_pos h2, if_pos (by omega)]
    · rw [if_neg h2]
      by_cases h3 : x / 64 = k
      · rw [if_pos (by omega), h3, hg, List.getD_eq_getElem?_getD, List.getElem?_eq_none (by omega)]; rfl
      · rw [if_neg (by omega)]
theorem gridTo_end (D : List (List Nat)) (x : Nat) : gridTo D D.length x = gridOf D x := by
  unfold gridTo
  by_cases h : x / 64 < D.length
  · rw [if_pos h]
  · rw [if_neg h]
    unfold gridOf
    simp [List.getElem?_eq_none (Nat.not_lt.1 h)]
theorem one_cells2 {cs : Array Value} {N : Nat} {f : Nat → Nat} (hs : cs.size = N) (h : ∀ j, j < N → cs[j]? = some (tv f j)) : cs.all (fun v => v.oneCell') = true := by
  rw [Array.all_eq_true]
  intro i hi
  have := h i (by omega)
  rw [Array.getElem?_eq_getElem hi] at this
  simp at this
  rw [this]; rfl
end Go.Proofs.YthhommjlomphdabDoor
/-
  Rows side by side in one block: one step of the working off.
-/
namespace Go.Proofs.YthhommjlomphdabDoor
open Go.RowKit Go.Deep Gf

def rw64 (G : Nat → Nat) (i : Nat) : List Nat := (List.range 64).map fun j => G (i * 64 + j)
def rowsG (G : Nat → Nat) (n : Nat) : List (List Nat) := (List.range n).map (rw64 G)
theorem vec_rw (G : Nat → Nat) (i j : Nat) : vec (rw64 G i) j = if j < 64 then G (i * 64 + j) else 0 := by
  unfold vec rw64
  by_cases h : j < 64
  · simp [h]
  · simp [h]
theorem rowsG_len (G : Nat → Nat) (n : Nat) : (rowsG G n).length = n := by simp [rowsG]
theorem rowsG_get (G : Nat → Nat) (n i : Nat) (h : i < (rowsG G n).length) : (rowsG G n)[i] = rw64 G i := by simp [rowsG]
theorem rowsG_byte {G : Nat → Nat} (hG : ∀ x, G x < 256) (n : Nat) : ∀ l ∈ rowsG G n, ∀ x ∈ l, x < 256 := by
  intro l hl x hx
  obtain ⟨i, _, rfl⟩ := List.mem_map.1 hl
  obtain ⟨j, _, rfl⟩ := List.mem_map.1 hx
  exact hG _
/-- rows p and r are exchanged -/
def swG (G : Nat → Nat) (p r x : Nat) : Nat := if x / 64 = r then G (p * 64 + x % 64) else if x / 64 = p then G (r * 64 + x % 64) else G x
theorem swG_lt {G : Nat → Nat} (hG : ∀ x, G x < 256) (p r x : Nat) : swG G p r x < 256 := by
  unfold swG; split
  · exact hG _
  · split <;> exact hG _
theorem swG_at (G : Nat → Nat) (p r i j : Nat) (hj : j < 64) : swG G p r (i * 64 + j) = if i = r then G (p * 64 + j) else if i = p then G (r * 64 + j) else G (i * 64 + j) := by
  have e1 : (i * 64 + j) / 64 = i := by omega
  have e2 : (i * 64 + j) % 64 = j := by omega
  unfold swG
  rw [e1, e2]
/-- one column is done -/
def nxG (G : Nat → Nat) (p r c n : Nat) : Nat → Nat := wk (swG G p r) r c (gi (G (p * 64 + c))) (max n (r + 1))
theorem nxG_lt {G : Nat → Nat} (hG : ∀ x, G x < 256) (p r c n x : Nat) : nxG G p r c n x < 256 := wk_lt (swG_lt hG p r) _ _ _ _
theorem nxG_at (G : Nat → Nat) (p r c n i j : Nat) (_hc : c < 64) (hj : j < 64) (hi : r < i) (hin : i < n) : nxG G p r c n (i * 64 + j) = if c ≤ j then swG G p r (i * 64 + j) ^^^ gm (gm (swG G p r (i * 64 + c)) (gi (G (p * 64 + c)))) (G (p * 64 + j)) else swG G p r (i * 64 + j) := by
  have e1 : (i * 64 + j) / 64 = i := by omega
  have e2 : (i * 64 + j) % 64 = j := by omega
  unfold nxG wk
  rw [e1, e2, swG_at G p r r j hj, if_pos rfl]
  by_cases h : c ≤ j
  · rw [if_pos h, if_pos (by omega)]
  · rw [if_neg h, if_neg (by omega)]
theorem nxG_row {G : Nat → Nat} {p r c n i : Nat} (hG : ∀ x, G x < 256) (hc : c < 64) (hp : p < n) (hrp : r ≤ p) (hpc : G (p * 64 + c) ≠ 0) (hz : ∀ i, r ≤ i → i < n → ∀ j, j < c → G (i * 64 + j) = 0) (hi : r < i) (hin : i < n) :
    ∃ f, f < 256 ∧ vec (rw64 (nxG G p r c n) i) = addV (vec (rw64 G (if i = p then r else i))) f (vec (rw64 G p)) ∧ vec (rw64 (nxG G p r c n) i) c = 0 := by
  have hsw : ∀ j, j < 64 → swG G p r (i * 64 + j) = G ((if i = p then r else i) * 64 + j) := by
    intro j hj
    rw [swG_at G p r i j hj, if_neg (by omega)]
    split <;> rfl
  refine ⟨gm (swG G p r (i * 64 + c)) (gi (G (p * 64 + c))), gm_lt _ (swG_lt hG _ _ _), ?_, ?_⟩
  · funext j
    show vec (rw64 (nxG G p r c n) i) j = vec (rw64 G (if i = p then r else i)) j ^^^ gm _ (vec (rw64 G p) j)
    rw [vec_rw, vec_rw, vec_rw]
    by_cases hj : j < 64
    · rw [if_pos hj, if_pos hj, if_pos hj, nxG_at G p r c n i j hc hj hi hin, hsw j hj]
      by_cases h : c ≤ j
      · rw [if_pos h]
      · rw [if_neg h, hz p hrp hp j (by omega), gm_zero, Nat.xor_zero]
    · rw [if_neg hj, if_neg hj, if_neg hj, gm_zero]
      exact (Nat.xor_self 0).symm
  · rw [vec_rw, if_pos hc, nxG_at G p r c n i c hc hc hi hin, if_pos (Nat.le_refl _)]
    exact off_zero (swG_lt hG _ _ _) (hG _) hpc
theorem grid_pivot {G : Nat → Nat} {p r c n m k : Nat} (hG : ∀ x, G x < 256) (hc : c < 64) (hp : p < n) (hrp : r ≤ p) (hpc : G (p * 64 + c) ≠ 0) (hz : ∀ i, r ≤ i → i < n → ∀ j, j < c → G (i * 64 + j) = 0)
    (ht : Taken m (Rem (rowsG (nxG G p r c n) n) (r + 1)) (c + 1) k) : Taken (m + 1) (Rem (rowsG G n) r) c (k + 1) := by
  refine taken_pivot (p := p) (T' := rowsG (nxG G p r c n) n) (rowsG_byte hG n) (rowsG_byte (nxG_lt hG p r c n) n) (by rw [rowsG_len, rowsG_len]) hrp (by rw [rowsG_len]; exact hp) ?_ ?_ ht
  · rw [rowsG_get, vec_rw, if_pos hc]; exact hpc
  · intro i hi hri
    rw [rowsG_len] at hi
    obtain ⟨f, hf, e, h0⟩ := nxG_row hG hc hp hrp hpc hz hri hi
    refine ⟨f, by rw [rowsG_len]; split <;> omega, hf, ?_, ?_⟩
    · rw [rowsG_get, rowsG_get, rowsG_get]; exact e
    · rw [rowsG_get]; exact h0
/-- the state of the working off -/
structure GI (D : List (List Nat)) (c r n : Nat) (G : Nat → Nat) : Prop where
  byt : ∀ x, G x < 256
  rle : r ≤ n
  zer : ∀ i, r ≤ i → i < n → ∀ j, j < c → G (i * 64 + j) = 0
  tak : ∀ k, Taken (64 - c) (Rem (rowsG G n) r) c k → RankIs D (r + k)
theorem GI.skip {D : List (List Nat)} {c r n : Nat} {G : Nat → Nat} (h : GI D c r n G) (hc : c < 64) (hz : ∀ i, r ≤ i → i < n → G (i * 64 + c) = 0) : GI D (c + 1) r n G :=
  { h with
    zer := fun i hr hi j hj => by
      by_cases e : j = c
      · subst e; exact hz i hr hi
      · exact h.zer i hr hi j (by omega)
    tak := fun k hk => by
      refine h.tak k ?_
      have e : 64 - c = 64 - (c + 1) + 1 := by omega
      rw [e]
      refine taken_skip (fun i hi hr => ?_) hk
      rw [rowsG_get, vec_rw, if_pos hc]
      rw [rowsG_len] at hi
      exact hz i hr hi }
theorem GI.pivot {D : List (List Nat)} {c r n p : Nat} {G : Nat → Nat} (h : GI D c r n G) (hc : c < 64) (hrp : r ≤ p) (hp : p < n) (hpc : G (p * 64 + c) ≠ 0) : GI D (c + 1) (r + 1) n (nxG G p r c n) where
  byt := nxG_lt h.byt p r c n
  rle := by omega
  zer := fun i hr hi j hj => by
    obtain ⟨f, _, e, h0⟩ := nxG_row h.byt hc hp hrp hpc h.zer (show r < i by omega) hi
    by_cases ej : j = c
    · subst ej
      rw [vec_rw, if_pos hc] at h0
      exact h0
    · have e2 := congrFun e j
      have hz1 := h.zer (if i = p then r else i) (by split <;> omega) (by split <;> omega) j (by omega)
      have hz2 := h.zer p hrp hp j (by omega)
      rw [vec_rw, if_pos (by omega)] at e2
      rw [e2]
      show vec (rw64 G (if i = p then r else i)) j ^^^ gm f (vec (rw64 G p) j) = 0
      generalize (if i = p then r else i) = q at *
      have hj64 : j < 64 := by omega
      rw [vec_rw, vec_rw, if_pos hj64, if_pos hj64, hz1, hz2, gm_zero]
      exact Nat.xor_self 0
  tak := fun k hk => by
    have e : r + 1 + k = r + (k + 1) := by omega
    rw [e]
    refine h.tak (k + 1) ?_
    have e : 64 - c = 64 - (c + 1) + 1 := by omega
    rw [e]
    exact grid_pivot h.byt hc hp hrp hpc h.zer hk
theorem GI.done {D : List (List Nat)} {r n : Nat} {G : Nat → Nat} (h : GI D 64 r n G) : RankIs D r :=
  h.tak 0 rfl
theorem gridOf_lt {D : List (List Nat)} (hb : ∀ l ∈ D, ∀ x ∈ l, x < 256) (x : Nat) : gridOf D x < 256 := by
  unfold gridOf
  by_cases h : x / 64 < D.length
  · have e : D.getD (x / 64) [] = D[x / 64] := by simp [h]
    rw [e]; exact getD_lt (hb _ (List.getElem_mem h)) _
  · have e : D.getD (x / 64) [] = [] := by simp [List.getElem?_eq_none (Nat.not_lt.1 h)]
    rw [e]; simp
theorem GI.start {D : List (List Nat)} (hb : ∀ l ∈ D, ∀ x ∈ l, x < 256) (hf : FitG D) : GI D 0 0 D.length (gridOf D) where
  byt := gridOf_lt hb
  rle := Nat.zero_le _
  zer := fun _ _ _ j hj => absurd hj (Nat.not_lt_zero _)
  tak := fun k hk => by
    rw [Nat.zero_add]
    have e : Rem (rowsG (gridOf D) D.length) 0 = Rem D 0 := rem_congr (by rw [rowsG_len]) (fun i h1 h2 => by
      rw [rowsG_get]
      funext j
      rw [vec_rw]
      have hg : D.getD i [] = D[i] := by simp [h2]
      by_cases hj : j < 64
      · rw [if_pos hj]
        have e1 : (i * 64 + j) / 64 = i := by omega
        have e2 : (i * 64 + j) % 64 = j := by omega
        unfold gridOf vec
        rw [e1, e2, hg]
      · rw [if_neg hj]
        have := hf.2 i h2
        unfold vec
        simp [List.getElem?_eq_none (show (D[i]).length ≤ j by omega)]) 0
    rw [e] at hk
    exact hk
end Go.Proofs.YthhommjlomphdabDoor
/-
  The exchange of two rows of the grid: a region that draws its order, with two loads of a whole row.
-/
namespace Go.Proofs.YthhommjlomphdabDoor
open Go.RowKit Go.Deep Gf

theorem put_same (a : Act) (i : Nat) (v : Value) (h : i < a.tmps.size) : (a.put (some i) v).eval (.tmp i) = v := by simp [Act.put, Act.eval, h]
theorem put_other (a : Act) (i j : Nat) (v : Value) (h : i ≠ j) : (a.put (some i) v).eval (.tmp j) = a.eval (.tmp j) := by
  simp [Act.put, Act.eval, Array.getD_eq_getD_getElem?, h]
theorem put_size (a : Act) (d : Option Nat) (v : Value) : (a.put d v).tmps.size = a.tmps.size := by
  cases d <;> simp [Act.put]
theorem put_comm (a : Act) (i j : Nat) (v u : Value) (h : i ≠ j) : (a.put (some i) v).put (some j) u = (a.put (some j) u).put (some i) v := by
  simp only [Act.put]
  rw [Array.setIfInBounds_comm _ _ h]
theorem wanted_of {ops : Array Oper} {o : Oper} {a : Act} (hg : o.guard = none) : Region.wanted o (yielded ops a.tmps) = true := by simp [Region.wanted, hg]
theorem yields_move {P : Program} {ops : Array Oper} {o : Oper} {a : Act} {x : Operand} {v : Value} (hg : o.guard = none) (ho : o.op = .move x) (hx : a.eval x = v) : Yields P ops o v a :=
  .inl ⟨wanted_of hg, fun w => by simp [execOp, ho, hx]⟩

def rg : Code → Nat → Option (Array Oper)
  | .region i ops _, n => if i = n then some ops else none
  | .seq a b, n => (rg a n).orElse fun _ => rg b n
  | .cond _ a b, n => (rg a n).orElse fun _ => rg b n
  | .block _ a, n => rg a n
  | .loop a, n => rg a n
  | .scope a, n => rg a n
  | _, _ => none
def mk12 (l : List Nat) : Array Bool := l.foldl (fun a i => a.setIfInBounds i true) (Array.replicate 12 false)
theorem Tryd.sizeRow : (Tryd.prog.info? 120).map (fun i => i.size) = some 64 := by kernel_rfl
/-- the frame behind it -/
def act12 (a : Act) (gb p r : Nat) (cp cr : List Value) : Act :=
  ((((((((((a.put (some 28) (.int .i64 (r : Nat))).put (some 29) (.int .i64 (p : Nat))).put (some 30) (.int .i64 (p : Nat))).put (some 33) (.int .i64 (r : Nat))).put (some 31) (.pointer (some ⟨gb, p * 64, none⟩))).put (some 34) (.pointer (some ⟨gb, r * 64, none⟩))).put (some 32) (.agg cp.toArray)).put (some 35) (.agg cr.toArray)).put (some 36) (.pointer (some ⟨gb, r * 64, none⟩))).put none undef).put (some 37) (.pointer (some ⟨gb, p * 64, none⟩)) |>.put none undef
end Go.Proofs.YthhommjlomphdabDoor
/-
  The program's Rank.
-/
namespace Go.Proofs.YthhommjlomphdabDoor
open Go.RowKit Go.Deep Gf

theorem row_setCells {b t n : Nat} : ∀ (vs : List Value) (o : Nat) (w : World) (f : Nat → Value), w.rowIs b t n f → (w.setCells b o vs).rowIs b t n (fun x => if o ≤ x ∧ x < o + vs.length then vs.getD (x - o) undef else f x)
  | [], o, w, f, h => h.congr (fun i _ => by rw [if_neg (by simp)])
  | v :: vs, o, w, f, h => (row_setCells vs (o + 1) _ _ (h.set o v)).congr (fun i _ => by
      by_cases h1 : o + 1 ≤ i ∧ i < o + 1 + vs.length
      · have e : i - o = (i - (o + 1)) + 1 := by omega
        rw [if_pos h1, if_pos (by simp; omega), e]
        simp
      · rw [if_neg h1]
        by_cases h2 : i = o
        · subst h2
          rw [if_pos rfl, if_pos (by simp)]
          simp
        · rw [if_neg h2, if_neg (by simp; omega)])
theorem grown_setCells {b : Nat} : ∀ (vs : List Value) (o : Nat) (w w' : World), w.grownBy w' (some b) → w.grownBy (w'.setCells b o vs) (some b)
  | [], _, _, _, h => h
  | v :: vs, o, w, _, h => grown_setCells vs (o + 1) w _ (grown_set h o v)
/-- a row's cells -/
def cel (G : Nat → Nat) (i : Nat) : List Value := (List.range 64).map fun j => tv G (i * 64 + j)
theorem cel_len (G : Nat → Nat) (i : Nat) : (cel G i).length = 64 := by simp [cel]
theorem cel_getD (G : Nat → Nat) (i j : Nat) (h : j < 64) : (cel G i).getD j undef = tv G (i * 64 + j) := by simp [cel, h]
theorem cel_range {w : World} {b t : Nat} {G : Nat → Nat} (h : w.rowIs b t 4096 (tv G)) {i : Nat} (hi : i < 64) : w.rangeAt b (i * 64) (cel G i) := by
  intro j v hv
  have hj : j < 64 := by
    obtain ⟨q, _⟩ := List.getElem?_eq_some_iff.1 hv
    rwa [cel_len] at q
  simp [cel, hj] at hv
  rw [h.cell (by omega), hv]
theorem cel_there {w : World} {b t : Nat} {f : Nat → Value} (h : w.rowIs b t 4096 f) {i n : Nat} (hi : i < 64) (hn : n ≤ 64) : w.there b (i * 64) n := fun j hj => by
  rw [h.cell (by omega)]
  exact ⟨rfl, h.frozen _⟩
theorem cel_one (G : Nat → Nat) (i : Nat) : (cel G i).toArray.all (fun v => v.oneCell') = true := by
  rw [Array.all_eq_true]
  intro j hj
  simp [cel, tv]
  rfl
theorem sw_row {w : World} {b t : Nat} {G : Nat → Nat} (h : w.rowIs b t 4096 (tv G)) (p r : Nat) : ((w.setCells b (r * 64) (cel G p)).setCells b (p * 64) (cel G r)).rowIs b t 4096 (tv (swG G p r)) := by
  refine (row_setCells (cel G r) (p * 64) _ _ (row_setCells (cel G p) (r * 64) _ _ h)).congr (fun x _ => ?_)
  rw [cel_len, cel_len]
  by_cases h1 : p * 64 ≤ x ∧ x < p * 64 + 64
  · have e1 : x / 64 = p := by omega
    have e2 : x - p * 64 = x % 64 := by omega
    rw [if_pos h1, e2, cel_getD _ _ _ (by omega)]
    unfold tv swG
    rw [e1]
    by_cases e3 : p = r
    · rw [if_pos e3, e3]
    · rw [if_neg e3, if_pos rfl]
  · rw [if_neg h1]
    by_cases h2 : r * 64 ≤ x ∧ x < r * 64 + 64
    · have e1 : x / 64 = r := by omega
      have e2 : x - r * 64 = x % 64 := by omega
      rw [if_pos h2, e2, cel_getD _ _ _ (by omega)]
      unfold tv swG
      rw [if_pos e1]
    · rw [if_neg h2]
      unfold tv swG
      rw [if_neg (by omega), if_neg (by omega)]
/-- which row is taken -/
def GpR (G : Nat → Nat) (r c n : Nat) (rv iv : Value) : Prop := ∃ k : Nat, r ≤ k ∧ k ≤ n ∧ rv = .int .i64 (r : Nat) ∧ iv = .int .i64 (k : Nat) ∧ ∀ i, r ≤ i → i < k → G (i * 64 + c) = 0
end Go.Proofs.YthhommjlomphdabDoor
