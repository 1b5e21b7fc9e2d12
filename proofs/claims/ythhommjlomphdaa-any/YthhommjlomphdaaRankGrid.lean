/-
  Rows side by side in one block: one step of the working off.
-/
import Derived.Test.YthhommjlomphdaaRankLay
namespace Go.Proofs.Ythhommjlomphdaa
open Go.RowKit Go.Deep Gf

def rw64 (G : Nat → Nat) (i : Nat) : List Nat := (List.range 64).map fun j => G (i * 64 + j)
def rowsG (G : Nat → Nat) (n : Nat) : List (List Nat) := (List.range n).map (rw64 G)
theorem vec_rw (G : Nat → Nat) (i j : Nat) : vec (rw64 G i) j = if j < 64 then G (i * 64 + j) else 0 := by
  unfold vec rw64
  by_cases h : j < 64
  · simp [h]
  · simp [h]
theorem rowsG_len (G : Nat → Nat) (n : Nat) : (rowsG G n).length = n := by simp [rowsG]
theorem rowsG_get (G : Nat → Nat) (n i : Nat) (h : i < (rowsG G n).length) : (rowsG G n)[i] = rw64 G i := by simp [rowsG]
theorem rowsG_byte {G : Nat → Nat} (hG : ∀ x, G x < 256) (n : Nat) : ∀ l ∈ rowsG G n, ∀ x ∈ l, x < 256 := by
  intro l hl x hx
  obtain ⟨i, _, rfl⟩ := List.mem_map.1 hl
  obtain ⟨j, _, rfl⟩ := List.mem_map.1 hx
  exact hG _
/-- rows p and r are exchanged -/
def swG (G : Nat → Nat) (p r x : Nat) : Nat := if x / 64 = r then G (p * 64 + x % 64) else if x / 64 = p then G (r * 64 + x % 64) else G x
theorem swG_lt {G : Nat → Nat} (hG : ∀ x, G x < 256) (p r x : Nat) : swG G p r x < 256 := by
  unfold swG; split
  · exact hG _
  · split <;> exact hG _
theorem swG_at (G : Nat → Nat) (p r i j : Nat) (hj : j < 64) : swG G p r (i * 64 + j) = if i = r then G (p * 64 + j) else if i = p then G (r * 64 + j) else G (i * 64 + j) := by
  have e1 : (i * 64 + j) / 64 = i := by omega
  have e2 : (i * 64 + j) % 64 = j := by omega
  unfold swG
  rw [e1, e2]
/-- one column is done -/
def nxG (G : Nat → Nat) (p r c n : Nat) : Nat → Nat := wk (swG G p r) r c (gi (G (p * 64 + c))) (max n (r + 1))
theorem nxG_lt {G : Nat → Nat} (hG : ∀ x, G x < 256) (p r c n x : Nat) : nxG G p r c n x < 256 := wk_lt (swG_lt hG p r) _ _ _ _
theorem nxG_at (G : Nat → Nat) (p r c n i j : Nat) (_hc : c < 64) (hj : j < 64) (hi : r < i) (hin : i < n) : nxG G p r c n (i * 64 + j) = if c ≤ j then swG G p r (i * 64 + j) ^^^ gm (gm (swG G p r (i * 64 + c)) (gi (G (p * 64 + c)))) (G (p * 64 + j)) else swG G p r (i * 64 + j) := by
  have e1 : (i * 64 + j) / 64 = i := by omega
  have e2 : (i * 64 + j) % 64 = j := by omega
  unfold nxG wk
  rw [e1, e2, swG_at G p r r j hj, if_pos rfl]
  by_cases h : c ≤ j
  · rw [if_pos h, if_pos (by omega)]
  · rw [if_neg h, if_neg (by omega)]
theorem nxG_row {G : Nat → Nat} {p r c n i : Nat} (hG : ∀ x, G x < 256) (hc : c < 64) (hp : p < n) (hrp : r ≤ p) (hpc : G (p * 64 + c) ≠ 0) (hz : ∀ i, r ≤ i → i < n → ∀ j, j < c → G (i * 64 + j) = 0) (hi : r < i) (hin : i < n) :
    ∃ f, f < 256 ∧ vec (rw64 (nxG G p r c n) i) = addV (vec (rw64 G (if i = p then r else i))) f (vec (rw64 G p)) ∧ vec (rw64 (nxG G p r c n) i) c = 0 := by
  have hsw : ∀ j, j < 64 → swG G p r (i * 64 + j) = G ((if i = p then r else i) * 64 + j) := by
    intro j hj
    rw [swG_at G p r i j hj, if_neg (by omega)]
    split <;> rfl
  refine ⟨gm (swG G p r (i * 64 + c)) (gi (G (p * 64 + c))), gm_lt _ (swG_lt hG _ _ _), ?_, ?_⟩
  · funext j
    show vec (rw64 (nxG G p r c n) i) j = vec (rw64 G (if i = p then r else i)) j ^^^ gm _ (vec (rw64 G p) j)
    rw [vec_rw, vec_rw, vec_rw]
    by_cases hj : j < 64
    · rw [if_pos hj, if_pos hj, if_pos hj, nxG_at G p r c n i j hc hj hi hin, hsw j hj]
      by_cases h : c ≤ j
      · rw [if_pos h]
      · rw [if_neg h, hz p hrp hp j (by omega), gm_zero, Nat.xor_zero]
    · rw [if_neg hj, if_neg hj, if_neg hj, gm_zero]
      exact (Nat.xor_self 0).symm
  · rw [vec_rw, if_pos hc, nxG_at G p r c n i c hc hc hi hin, if_pos (Nat.le_refl _)]
    exact off_zero (swG_lt hG _ _ _) (hG _) hpc
theorem grid_pivot {G : Nat → Nat} {p r c n m k : Nat} (hG : ∀ x, G x < 256) (hc : c < 64) (hp : p < n) (hrp : r ≤ p) (hpc : G (p * 64 + c) ≠ 0) (hz : ∀ i, r ≤ i → i < n → ∀ j, j < c → G (i * 64 + j) = 0)
    (ht : Taken m (Rem (rowsG (nxG G p r c n) n) (r + 1)) (c + 1) k) : Taken (m + 1) (Rem (rowsG G n) r) c (k + 1) := by
  refine taken_pivot (p := p) (T' := rowsG (nxG G p r c n) n) (rowsG_byte hG n) (rowsG_byte (nxG_lt hG p r c n) n) (by rw [rowsG_len, rowsG_len]) hrp (by rw [rowsG_len]; exact hp) ?_ ?_ ht
  · rw [rowsG_get, vec_rw, if_pos hc]; exact hpc
  · intro i hi hri
    rw [rowsG_len] at hi
    obtain ⟨f, hf, e, h0⟩ := nxG_row hG hc hp hrp hpc hz hri hi
    refine ⟨f, by rw [rowsG_len]; split <;> omega, hf, ?_, ?_⟩
    · rw [rowsG_get, rowsG_get, rowsG_get]; exact e
    · rw [rowsG_get]; exact h0
/-- the state of the working off -/
structure GI (D : List (List Nat)) (c r n : Nat) (G : Nat → Nat) : Prop where
  byt : ∀ x, G x < 256
  rle : r ≤ n
  zer : ∀ i, r ≤ i → i < n → ∀ j, j < c → G (i * 64 + j) = 0
  tak : ∀ k, Taken (64 - c) (Rem (rowsG G n) r) c k → RankIs D (r + k)
theorem GI.skip {D : List (List Nat)} {c r n : Nat} {G : Nat → Nat} (h : GI D c r n G) (hc : c < 64) (hz : ∀ i, r ≤ i → i < n → G (i * 64 + c) = 0) : GI D (c + 1) r n G :=
  { h with
    zer := fun i hr hi j hj => by
      by_cases e : j = c
      · subst e; exact hz i hr hi
      · exact h.zer i hr hi j (by omega)
    tak := fun k hk => by
      refine h.tak k ?_
      have e : 64 - c = 64 - (c + 1) + 1 := by omega
      rw [e]
      refine taken_skip (fun i hi hr => ?_) hk
      rw [rowsG_get, vec_rw, if_pos hc]
      rw [rowsG_len] at hi
      exact hz i hr hi }
theorem GI.pivot {D : List (List Nat)} {c r n p : Nat} {G : Nat → Nat} (h : GI D c r n G) (hc : c < 64) (hrp : r ≤ p) (hp : p < n) (hpc : G (p * 64 + c) ≠ 0) : GI D (c + 1) (r + 1) n (nxG G p r c n) where
  byt := nxG_lt h.byt p r c n
  rle := by omega
  zer := fun i hr hi j hj => by
    obtain ⟨f, _, e, h0⟩ := nxG_row h.byt hc hp hrp hpc h.zer (show r < i by omega) hi
    by_cases ej : j = c
    · subst ej
      rw [vec_rw, if_pos hc] at h0
      exact h0
    · have e2 := congrFun e j
      have hz1 := h.zer (if i = p then r else i) (by split <;> omega) (by split <;> omega) j (by omega)
      have hz2 := h.zer p hrp hp j (by omega)
      rw [vec_rw, if_pos (by omega)] at e2
      rw [e2]
      show vec (rw64 G (if i = p then r else i)) j ^^^ gm f (vec (rw64 G p) j) = 0
      generalize (if i = p then r else i) = q at *
      have hj64 : j < 64 := by omega
      rw [vec_rw, vec_rw, if_pos hj64, if_pos hj64, hz1, hz2, gm_zero]
      exact Nat.xor_self 0
  tak := fun k hk => by
    have e : r + 1 + k = r + (k + 1) := by omega
    rw [e]
    refine h.tak (k + 1) ?_
    have e : 64 - c = 64 - (c + 1) + 1 := by omega
    rw [e]
    exact grid_pivot h.byt hc hp hrp hpc h.zer hk
theorem GI.done {D : List (List Nat)} {r n : Nat} {G : Nat → Nat} (h : GI D 64 r n G) : RankIs D r :=
  h.tak 0 rfl
theorem gridOf_lt {D : List (List Nat)} (hb : ∀ l ∈ D, ∀ x ∈ l, x < 256) (x : Nat) : gridOf D x < 256 := by
  unfold gridOf
  by_cases h : x / 64 < D.length
  · have e : D.getD (x / 64) [] = D[x / 64] := by simp [h]
    rw [e]; exact getD_lt (hb _ (List.getElem_mem h)) _
  · have e : D.getD (x / 64) [] = [] := by simp [List.getElem?_eq_none (Nat.not_lt.1 h)]
    rw [e]; simp
theorem GI.start {D : List (List Nat)} (hb : ∀ l ∈ D, ∀ x ∈ l, x < 256) (hf : FitG D) : GI D 0 0 D.length (gridOf D) where
  byt := gridOf_lt hb
  rle := Nat.zero_le _
  zer := fun _ _ _ j hj => absurd hj (Nat.not_lt_zero _)
  tak := fun k hk => by
    rw [Nat.zero_add]
    have e : Rem (rowsG (gridOf D) D.length) 0 = Rem D 0 := rem_congr (by rw [rowsG_len]) (fun i h1 h2 => by
      rw [rowsG_get]
      funext j
      rw [vec_rw]
      have hg : D.getD i [] = D[i] := by simp [h2]
      by_cases hj : j < 64
      · rw [if_pos hj]
        have e1 : (i * 64 + j) / 64 = i := by omega
        have e2 : (i * 64 + j) % 64 = j := by omega
        unfold gridOf vec
        rw [e1, e2, hg]
      · rw [if_neg hj]
        have := hf.2 i h2
        unfold vec
        simp [List.getElem?_eq_none (show (D[i]).length ≤ j by omega)]) 0
    rw [e] at hk
    exact hk
end Go.Proofs.Ythhommjlomphdaa
