import Derived.Test.YtogdeaaphdlchaaGreatDoorPart02
import Derived.Laws.CopyOwn
import Derived.Deep.MidRow
import Derived.Deep.RegionWith
/-
  Rows of which each byte is written anew, one by one.
-/
namespace Go.Proofs.YtogdeaaphdlchaaGreatDoor
open Go.RowKit Go.Deep Gf

def xr (c : Nat) (l : List Nat) : List Nat := l.map (fun x => x ^^^ c)
def xrTo (c k : Nat) (l : List Nat) : List Nat := (List.range l.length).map fun j => if j < k then l.getD j 0 ^^^ c else l.getD j 0
theorem xrTo_zero (c : Nat) (l : List Nat) : xrTo c 0 l = l := by
  unfold xrTo
  apply List.ext_getElem
  · simp
  · intro j h1 h2; simp [h2]
theorem xrTo_end (c : Nat) (l : List Nat) : xrTo c l.length l = xr c l := by
  unfold xrTo xr
  apply List.ext_getElem
  · simp
  · intro j h1 h2
    simp at h1
    simp [h1]
theorem xrTo_len (c k : Nat) (l : List Nat) : (xrTo c k l).length = l.length := by simp [xrTo]
theorem xrTo_get (c k : Nat) (l : List Nat) (hk : k < l.length) : (xrTo c k l).getD k 0 = l.getD k 0 := by simp [xrTo, hk]
theorem xrTo_step (c k : Nat) (l : List Nat) : (xrTo c k l).set k (l.getD k 0 ^^^ c) = xrTo c (k + 1) l := by
  unfold xrTo
  apply List.ext_getElem
  · simp
  · intro j h1 h2
    simp [List.getElem_set]
    by_cases e : k = j
    · subst e; simp
    · simp only [if_neg e]
      by_cases e2 : j < k
      · rw [if_pos e2, if_pos (by omega)]
      · rw [if_neg e2, if_neg (by omega)]
theorem xr_lt {c : Nat} (hc : c < 256) {l : List Nat} (h : ∀ x ∈ l, x < 256) : ∀ x ∈ xr c l, x < 256 := by
  intro x hx
  obtain ⟨y, hy, rfl⟩ := List.mem_map.1 hx
  exact xlt (h y hy) hc
theorem xr_get (c : Nat) (l : List Nat) (k : Nat) (hk : k < l.length) : (xr c l).getD k 0 = l.getD k 0 ^^^ c := by simp [xr, hk]
theorem xr_len (c : Nat) (l : List Nat) : (xr c l).length = l.length := by simp [xr]

def SA2 (wo : World) (b c : Nat) (l : List Nat) (i : Value) (wr : World) : Prop :=
  ∃ k : Nat, k ≤ l.length ∧ i = .int .i64 k ∧ wo.grownBy wr (some b) ∧ Brow wr b (xrTo c k l)
theorem Bs.drew {w : World} {v : Value} {l : List Nat} (h : Bs w v l) (n : Nat) : Bs (w.drewN n) v l := h.mono ⟨rfl, rfl, rfl, Nat.le_refl _, fun _ _ => rfl⟩
end Go.Proofs.YtogdeaaphdlchaaGreatDoor
/-
  Lists of rows that are read, wherever they lie; the law's own functions that copy them with spare room.
-/
namespace Go.Proofs.YtogdeaaphdlchaaGreatDoor
open Go.RowKit Go.Deep Gf

/-- a list of just these rows, wherever they lie -/
def Rd (w : World) (v : Value) (D : List (List Nat)) : Prop :=
  ∃ ao c, v = .slice ao D.length c ∧ D.length ≤ 5864062014805 ∧ (D ≠ [] → ∃ b off, ao = some ⟨b, off, none⟩ ∧ ∀ i (hi : i < D.length), ∃ u, w.cell? ⟨b, off + i, none⟩ = some u ∧ Bs w u D[i])
theorem Bs.lt {w : World} {v : Value} {l : List Nat} (h : Bs w v l) : ∀ x ∈ l, x < 256 := by
  obtain ⟨_, _, _, _, _, hx, _⟩ := h; exact hx
theorem Rd.mono {w w' : World} {v : Value} {D : List (List Nat)} (h : Rd w v D) (hb : Below w.heap.size w w') : Rd w' v D := by
  obtain ⟨ao, c, h1, h2, h3⟩ := h
  refine ⟨ao, c, h1, h2, fun hD => ?_⟩
  obtain ⟨b, off, e, hc⟩ := h3 hD
  refine ⟨b, off, e, fun i hi => ?_⟩
  obtain ⟨u, hu, hB⟩ := hc i hi
  exact ⟨u, by rw [hb.cell (block_lt_of_cell hu)]; exact hu, hB.mono hb⟩
theorem Rd.cases {w : World} {v : Value} {D : List (List Nat)} (h : Rd w v D) : (D = [] ∧ ∃ ao c, v = .slice ao 0 c) ∨ ∃ b off c, v = .slice (some ⟨b, off, none⟩) D.length c ∧ D.length ≤ 5864062014805 ∧ ∀ i (hi : i < D.length), ∃ u, w.cell? ⟨b, off + i, none⟩ = some u ∧ Bs w u D[i] := by
  obtain ⟨ao, c, h1, h2, h3⟩ := h
  by_cases hD : D = []
  · subst hD; exact .inl ⟨rfl, ao, c, h1⟩
  · obtain ⟨b, off, rfl, hc⟩ := h3 hD
    exact .inr ⟨b, off, c, h1, h2, hc⟩

/-- how much a list weighs, its first k rows -/
def wgt (D : List (List Nat)) (k : Nat) : Nat := D.length + ((D.take k).map List.length).sum
theorem wgt_step (D : List (List Nat)) (k : Nat) (hk : k < D.length) : wgt D (k + 1) = wgt D k + D[k].length := by
  unfold wgt
  rw [List.take_succ_eq_append_getElem hk, List.map_append, List.sum_append]
  simp
  omega
theorem wgt_le (D : List (List Nat)) (k : Nat) : D.length ≤ wgt D k := by unfold wgt; omega
theorem wgt_mono (D : List (List Nat)) (k : Nat) (hk : k ≤ D.length) : wgt D k ≤ wgt D D.length := by
  induction h : D.length - k generalizing k with
  | zero => have : k = D.length := by omega
            rw [this]; exact Nat.le_refl _
  | succ n ih =>
    have := ih (k + 1) (by omega) (by omega)
    rw [wgt_step D k (by omega)] at this
    omega
def WgR (D : List (List Nat)) (n i : Value) : Prop := ∃ k : Nat, k ≤ D.length ∧ n = .int .i64 (wgt D k : Nat) ∧ i = .int .i64 k ∧ wgt D k ≤ 140737488455328
theorem Brow.heap {w : World} {b : Nat} {l : List Nat} (h : Brow w b l) : w.heap[b]? = some (.cells (l.map (fun x => Value.int .u8 ((x : Nat) : Int))).toArray 5 (0, 0)) := by
  obtain ⟨c, hc, hs, hg⟩ := h
  have : c = (l.map (fun x => Value.int .u8 ((x : Nat) : Int))).toArray := by
    apply Array.ext
    · simp [hs]
    · intro i h1 h2
      have := hg i (by omega)
      rw [Array.getElem?_eq_getElem h1] at this
      simp [vb] at this
      have hi : i < l.length := by omega
      simp [this, hi]
  rw [← this]; exact hc
theorem Brow.of_heap {w : World} {b : Nat} {l : List Nat} (h : w.heap[b]? = some (.cells (l.map (fun x => Value.int .u8 ((x : Nat) : Int))).toArray 5 (0, 0))) : Brow w b l :=
  ⟨_, h, by simp, fun i hi => by simp [vb, hi]⟩
/-- copy into a row of the call's own, from its head on -/
theorem wpList_cp {w : World} {ops : Array Oper} {rest : List Oper} {o : Oper} {a : Act} {Q : Exit → Act → World → Prop} (hgd : o.guard = none) (d s : Operand)
    (ho : o.op = .call { callee := .builtin .copy, args := #[d, s], argTypes := #[166, 166] }) (g n cap : Nat) (v : Value) (hd : a.eval d = .slice (some ⟨g, 0, none⟩) n cap) (hs : a.eval s = v)
    (old src : List Nat) (hB : Brow w g old) (hS : Bs w v src) (hle : src.length ≤ n) (hn : n ≤ old.length) (B : Nat) (w0 : World) (hb : Below B w0 w) (hBg : B ≤ g)
    (h : ∀ w', Brow w' g (src ++ old.drop src.length) → Below B w0 w' → wpList Tryz.prog ops Q rest (a.put o.dst (goInt src.length)) w') : wpList Tryz.prog ops Q (o :: rest) a w := by
  obtain ⟨ao, c, rfl, h1, h2, h3, h4⟩ := hS
  refine wpList_copy_splice hgd d s 166 166 ho 5 Tryz.underlying166 (by kernel_rfl) (some ⟨g, 0, none⟩) ao n cap src.length c hd hs g 0 _ 5 hB.heap (src.map (fun x => Value.int .u8 ((x : Nat) : Int))) ?_ ?_ ?_ ?_ B w0 hb hBg ?_
  · rw [List.length_map]
    show src.length = min src.length n
    omega
  · intro hp
    rw [List.length_map] at hp
    obtain ⟨b, off, rfl, hc⟩ := h4 (by intro e; rw [e] at hp; simp at hp)
    refine ⟨rfl, _, rfl, fun j u hj => ?_⟩
    have hjl : j < src.length := by
      have := List.getElem?_eq_some_iff.1 hj
      obtain ⟨q, _⟩ := this
      simpa using q
    rw [Addr.add_mid, hc j hjl]
    simp [hjl] at hj
    simp [hjl, hj]
  · simp; omega
  · intro u hu
    obtain ⟨x, _, rfl⟩ := List.mem_map.1 hu
    rfl
  · intro w' hw' hb'
    have e : (splice (old.map (fun x => Value.int .u8 ((x : Nat) : Int))) 0 (src.map (fun x => Value.int .u8 ((x : Nat) : Int)))) = (src ++ old.drop src.length).map (fun x => Value.int .u8 ((x : Nat) : Int)) := by
      simp [splice]
    have hw := hw'.out
    rw [e] at hw
    rw [List.length_map]
    exact h w' (Brow.of_heap hw) hb'
theorem room_start (l : List Nat) : l ++ (List.replicate (l.length + 2) 0).drop l.length = l ++ [0, 0] := by
  rw [List.drop_replicate, Nat.add_sub_cancel_left]; rfl
theorem room_end (l : List Nat) : ((l ++ [0, 0]).set l.length 71).set (l.length + 1) 72 = l ++ [71, 72] := by
  rw [List.set_append_right _ _ (Nat.le_refl _), List.set_append_right _ _ (by omega)]
  simp
/-- a list of rows with their spare room -/
def RoomOf (T : List (Nat × Nat × List Nat)) (D : List (List Nat)) : Prop := T.map (fun p => p.2) = D.map (fun l => (l.length, l ++ [71, 72]))
theorem RoomOf.len {T : List (Nat × Nat × List Nat)} {D : List (List Nat)} (h : RoomOf T D) : T.length = D.length := by simpa using congrArg List.length h
theorem RoomOf.push {T : List (Nat × Nat × List Nat)} {D : List (List Nat)} (h : RoomOf T D) (b : Nat) (l : List Nat) : RoomOf (T ++ [(b, l.length, l ++ [71, 72])]) (D ++ [l]) := by
  unfold RoomOf at *
  simp [h]
def RmR (w : World) (B : Nat) (D : List (List Nat)) (v i : Value) (wr : World) : Prop :=
  ∃ k T, k ≤ D.length ∧ i = .int .i64 (k : Nat) ∧ Tab wr B v T ∧ RoomOf T (D.take k) ∧ Below B w wr ∧ B ≤ wr.heap.size
theorem row_le (D : List (List Nat)) (i : Nat) (hi : i < D.length) (h : wgt D D.length ≤ 100000) : (D[i]).length ≤ 100000 := by
  have h1 := wgt_step D i hi
  have h2 := wgt_mono D (i + 1) (by omega)
  omega
/-- the first i rows have been written into -/
def stl (T : List (Nat × Nat × List Nat)) (i : Nat) : List (Nat × Nat × List Nat) :=
  (List.range T.length).map fun j => if j < i then ((T.getD j (0, 0, [])).1, (T.getD j (0, 0, [])).2.1, xr 85 (T.getD j (0, 0, [])).2.2) else T.getD j (0, 0, [])
theorem stl_len (L : List (Nat × Nat × List Nat)) (i : Nat) : (stl L i).length = L.length := by simp [stl]
theorem stl_zero (L : List (Nat × Nat × List Nat)) : stl L 0 = L := by
  unfold stl
  apply List.ext_getElem
  · simp
  · intro j h1 h2; simp [h2]
theorem stl_ge (L : List (Nat × Nat × List Nat)) (i j : Nat) (hj : j < L.length) (h : i ≤ j) (h' : j < (stl L i).length) : (stl L i)[j] = L[j] := by
  simp [stl, hj, Nat.not_lt.2 h]
theorem stl_lt (L : List (Nat × Nat × List Nat)) (i j : Nat) (hj : j < L.length) (h : j < i) (h' : j < (stl L i).length) : (stl L i)[j] = (L[j].1, L[j].2.1, xr 85 L[j].2.2) := by
  simp [stl, hj, h]
theorem stl_step (L : List (Nat × Nat × List Nat)) (i : Nat) (hi : i < L.length) : (stl L i).set i (L[i].1, L[i].2.1, xr 85 L[i].2.2) = stl L (i + 1) := by
  apply List.ext_getElem
  · simp [stl]
  · intro j h1 h2
    have hj : j < L.length := by simpa [stl] using h2
    rw [List.getElem_set]
    by_cases e : i = j
    · subst e; rw [if_pos rfl, stl_lt L _ _ hi (by omega)]
    · rw [if_neg e]
      by_cases e2 : j < i
      · rw [stl_lt L _ _ hj e2, stl_lt L _ _ hj (by omega)]
      · rw [stl_ge L _ _ hj (by omega), stl_ge L _ _ hj (by omega)]
theorem RoomOf.at {T : List (Nat × Nat × List Nat)} {D : List (List Nat)} (h : RoomOf T D) {i : Nat} (h1 : i < T.length) (h2 : i < D.length) : T[i].2 = ((D[i]).length, D[i] ++ [71, 72]) := by
  have := List.getElem_of_eq h (i := i) (by simpa using h1)
  simpa using this
theorem Tab.cell_at {w : World} {base g n cap : Nat} {L : List (Nat × Nat × List Nat)} (h : Tab w base (.slice (some ⟨g, 0, none⟩) n cap) L) {i : Nat} (hi : i < L.length) : w.cell? ⟨g, i, none⟩ = some (hdr L[i]) := by
  have := h.own.cells (g := g) rfl i (hdr L[i]) (by simp [hi])
  rw [add0] at this
  exact this
theorem Tab.slice {w : World} {base : Nat} {v : Value} {L : List (Nat × Nat × List Nat)} (h : Tab w base v L) : ∃ ao cap, v = .slice ao L.length cap ∧ (L ≠ [] → ∃ g, ao = some ⟨g, 0, none⟩) := by
  rcases h.shape with ⟨rfl, rfl⟩ | ⟨g, cap, rfl, _⟩
  · exact ⟨none, 0, rfl, fun h => absurd rfl h⟩
  · exact ⟨_, cap, rfl, fun _ => ⟨g, rfl⟩⟩
/-- only these rows are written into -/
structure Only (T : List (Nat × Nat × List Nat)) (w w' : World) : Prop where
  os : w'.os = w.os
  tape : w'.tape = w.tape
  output : w'.output = w.output
  size : w.heap.size ≤ w'.heap.size
  block : ∀ k, k < w.heap.size → (∀ p ∈ T, p.1 ≠ k) → w'.heap[k]? = w.heap[k]?
theorem Only.refl (T : List (Nat × Nat × List Nat)) (w : World) : Only T w w := ⟨rfl, rfl, rfl, Nat.le_refl _, fun _ _ _ => rfl⟩
theorem Only.step {T : List (Nat × Nat × List Nat)} {w wo w' : World} {b : Nat} (h : Only T w wo) (hg : wo.grownBy w' (some b)) (hb : ∃ p ∈ T, p.1 = b) : Only T w w' :=
  ⟨hg.os.trans h.os, hg.tape.trans h.tape, hg.output.trans h.output, Nat.le_trans h.size hg.size, fun k hk hne => by
    obtain ⟨p, hp, e⟩ := hb
    rw [hg.block k (Nat.lt_of_lt_of_le hk h.size) (by intro q; simp at q; exact hne p hp (by omega)), h.block k hk hne]⟩
theorem Only.below {T : List (Nat × Nat × List Nat)} {w w' : World} {B : Nat} (h : Only T w w') (hT : ∀ p ∈ T, B ≤ p.1) (hB : B ≤ w.heap.size) : Below B w w' :=
  ⟨h.os, h.tape, h.output, h.size, fun k hk => h.block k (by omega) (fun p hp e => by have := hT p hp; omega)⟩
theorem Tab.only {T S : List (Nat × Nat × List Nat)} {w w' : World} {B B' : Nat} {v v' : Value} (hS : Tab w B v S) (hT : Tab w B' v' T) (hap : Apart S T) (h : Only T w w') : Tab w' B v S := by
  refine ⟨⟨hS.own.1, ?_⟩, fun p hp => ?_, hS.nodup⟩
  · rcases hS.own.2 with h0 | ⟨g, cap, cur, e1, e2, e3, e4⟩
    · exact .inl h0
    · refine .inr ⟨g, cap, cur, e1, e2, ?_, e4⟩
      obtain ⟨hlt, _⟩ := Array.getElem?_eq_some_iff.1 e3
      rw [h.block g hlt]
      · exact e3
      · intro p hp e
        obtain ⟨c, hc, _⟩ := (hT.row p hp).2.1
        rw [e, e3] at hc
        simp at hc
  · obtain ⟨a, b, c⟩ := hS.row p hp
    exact ⟨a, World.rowIs.of_block b (h.block p.1 b.lt (fun q hq e => hap p hp q hq e.symm)), c⟩
def AsR (w : World) (B : Nat) (v : Value) (T : List (Nat × Nat × List Nat)) (n : Nat) (i o : Value) (wr : World) : Prop :=
  ∃ k : Nat, k ≤ n ∧ i = .int .i64 k ∧ o = .bool true ∧ Tab wr B v (stl T k) ∧ Only T w wr ∧ B ≤ wr.heap.size
/-- rows with their spare room are read as the rows -/
theorem Tab.rd {w : World} {B : Nat} {v : Value} {T : List (Nat × Nat × List Nat)} {D : List (List Nat)} (h : Tab w B v T) (hR : RoomOf T D) (hl : D.length ≤ 100000) : Rd w v D := by
  have hlen := hR.len
  obtain ⟨ao, cap, rfl, hao⟩ := h.slice
  refine ⟨ao, cap, by rw [hlen], by omega, fun hD => ?_⟩
  obtain ⟨g, rfl⟩ := hao (by intro e; rw [e] at hlen; exact hD (List.eq_nil_of_length_eq_zero hlen.symm))
  refine ⟨g, 0, rfl, fun i hi => ?_⟩
  have hiT : i < T.length := by omega
  refine ⟨hdr T[i], by rw [Nat.zero_add]; exact h.cell_at hiT, ?_⟩
  have := h.row_at hiT
  have hat := hR.at hiT hi
  rw [hat] at this
  have e : (D[i] ++ [71, 72]).take (D[i]).length = D[i] := by simp
  rw [e] at this
  exact this
end Go.Proofs.YtogdeaaphdlchaaGreatDoor
/-
  Records: what the program writes into a block, and reads from one.
-/
namespace Go.Proofs.YtogdeaaphdlchaaGreatDoor
open Go.RowKit Go.Deep

/-- a root as a value -/
def rootA (D L G t f n : Nat) : Array Value := #[.int .i64 D, .int .i64 L, .int .i64 G, .int .u64 t, .int .i64 f, .int .i64 n]
theorem Bs.of_owns {w : World} {base : Nat} {v : Value} {n : Nat} {l : List Nat} (h : w.ownsRow base 5 1 v n (bts l)) (hx : ∀ x ∈ l, x < 256) (hl : l.length ≤ 1000000) : Bs w v l := by
  have hn : l.length = n := by have := h.1; rw [bts_len] at this; omega
  rcases h.2 with ⟨rfl, h0⟩ | ⟨g, cap, cur, rfl, e2, e3, e4, e5, e6, e7⟩
  · subst h0
    have : l = [] := List.eq_nil_of_length_eq_zero hn
    subst this
    exact ⟨none, 0, rfl, by simp, by simp, hx, fun h => absurd rfl h⟩
  · refine ⟨some ⟨g, 0, none⟩, cap, by rw [hn], by omega, by omega, hx, fun _ => ⟨g, 0, rfl, fun k hk => ?_⟩⟩
    have := h.cells (g := g) rfl k (.int .u8 ((l.getD k 0 : Nat) : Int)) (by unfold bts; rw [List.getElem?_map, List.getElem?_eq_getElem hk, List.getD_eq_getElem?_getD, List.getElem?_eq_getElem hk]; rfl)
    rw [add0] at this
    rw [Nat.zero_add]; exact this
theorem owns_lit4 (w : World) (a b c d : Nat) : (w.alloc (.cells #[.int .u8 (a : Int), .int .u8 (b : Int), .int .u8 (c : Int), .int .u8 (d : Int)] 5)).ownsRow w.heap.size 5 1 (.slice (some ⟨w.heap.size, 0, none⟩) 4 4) 4 (bts [a, b, c, d]) :=
  ⟨rfl, .inr ⟨w.heap.size, 4, _, rfl, Nat.le_refl _, blk_alloc_new _ _, Nat.le_refl _, by unfold maxLen; omega, rfl, rfl⟩⟩
set_option maxRecDepth 100000 in
set_option maxHeartbeats 1000000 in
theorem blank_body (w : World) : Calls Tryz.prog 193 #[.agg #[]] w fun e w' => e = .returned (.slice none 0 0) ∧ Below w.heap.size w w' := by
  go_enter Tryz.func193, Tryz.ntmps193
  go_wp2
  go_ret
  exact ⟨rfl, (Below.refl _ w).alloc (Nat.le_refl _) _⟩
set_option maxRecDepth 100000 in
set_option maxHeartbeats 2000000 in
theorem root_body (D L G t f n : Nat) (w : World) (hok : (Rec.root D L G t f n).ok) :
    Calls Tryz.prog 178 #[.agg (rootA D L G t f n)] w fun e w' => ∃ v, e = .returned v ∧ Bs w' v (Rec.root D L G t f n).body ∧ Below w.heap.size w w' := by
  obtain ⟨h1, h2, h3, h4, h5, h6⟩ := hok
  have hb0 : (w.alloc (.cells (rootA D L G t f n) 63)).heap[w.heap.size]? = some (.cells (rootA D L G t f n) 63 (0, 0)) := blk_alloc_new _ _
  have hz0 : (w.alloc (.cells (rootA D L G t f n) 63)).heap.size = w.heap.size + 1 := by simp
  have ho1 := owns_lit4 (w.alloc (.cells (rootA D L G t f n) 63)) 1 D L G
  have hbb : ((w.alloc (.cells (rootA D L G t f n) 63)).alloc (.cells #[.int .u8 1, .int .u8 (D : Int), .int .u8 (L : Int), .int .u8 (G : Int)] 5)).heap[w.heap.size]? = some (.cells (rootA D L G t f n) 63 (0, 0)) := (blk_alloc_lt _ _ _ (by simp)).trans hb0
  have hbw : Below w.heap.size w ((w.alloc (.cells (rootA D L G t f n) 63)).alloc (.cells #[.int .u8 1, .int .u8 (D : Int), .int .u8 (L : Int), .int .u8 (G : Int)] 5)) := ((Below.refl _ w).alloc (Nat.le_refl _) _).alloc (by simp) _
  have hz1 : ((w.alloc (.cells (rootA D L G t f n) 63)).alloc (.cells #[.int .u8 1, .int .u8 (D : Int), .int .u8 (L : Int), .int .u8 (G : Int)] 5)).heap.size = w.heap.size + 2 := by simp
  rw [hz0] at ho1
  unfold rootA at *
  obtain ⟨w1, hw1⟩ : ∃ w1, (w.alloc (.cells #[.int .i64 D, .int .i64 L, .int .i64 G, .int .u64 t, .int .i64 f, .int .i64 n] 63)).alloc (.cells #[.int .u8 1, .int .u8 (D : Int), .int .u8 (L : Int), .int .u8 (G : Int)] 5) = w1 := ⟨_, rfl⟩
  have ho1' : w1.ownsRow (w.heap.size + 1) 5 1 (.slice (some ⟨w.heap.size + 1, 0, none⟩) 4 4) 4 (bts [1, D, L, G]) := by rw [← hw1]; exact ho1
  rw [hw1] at hbb hbw hz1
  have c1 : w1.cell? ⟨w.heap.size, 3, none⟩ = some (.int .u64 t) := by simp [World.cell?, hbb]
  have H1 := hide (And.intro ho1' (And.intro hbb (And.intro hbw hz1)))
  clear ho1 ho1' hbb hbw hb0 hz0 hz1
  go_enter Tryz.func178, Tryz.ntmps178
  go_wp2_with fail
  refine (append_num (w.heap.size + 1) _ 4 (bts [1, D, L, G]) t 8 w1 H1.out.1 (by have := H1.out.2.2.2; omega) (by decide) (by decide)).mono ?_
  rintro e w2 ⟨v2, rfl, ho2, hO2, hat2⟩
  have hbb2 : w2.heap[w.heap.size]? = some (.cells #[.int .i64 D, .int .i64 L, .int .i64 G, .int .u64 t, .int .i64 f, .int .i64 n] 63 (0, 0)) := (hO2.block _ (by have := H1.out.2.2.2; omega) (fun e => by simp [Value.ownBlock] at e)).trans H1.out.2.1
  have hbw2 : Below w.heap.size w w2 := H1.out.2.2.1.trans (hO2.below fun k hk => ⟨by have := H1.out.2.2.2; omega, fun e => by simp [Value.ownBlock] at e; omega⟩)
  have hs2 := hO2.size
  have c2 : w2.cell? ⟨w.heap.size, 4, none⟩ = some (.int .i64 f) := by simp [World.cell?, hbb2]
  have H2 := hide (And.intro ho2 (And.intro hbb2 (And.intro hbw2 (And.intro hs2 hat2))))
  clear ho2 hO2 hat2 hbb2 hbw2 hs2 hw1
  go_wp2_with fail
  refine (append_num (w.heap.size + 1) _ (4 + 8) (bts [1, D, L, G] ++ bts (be t 8)) f 4 w2 H2.out.1 (by have := H1.out.2.2.2; have := H2.out.2.2.2.1; omega) (by decide) (by decide)).mono ?_
  rintro e w3 ⟨v3, rfl, ho3, hO3, hat3⟩
  have hne2 : ∀ k, k ≤ w.heap.size → ¬ v2.ownBlock = some k := fun k hk e => by have := (H2.out.1.lt k e).1; omega
  have hbb3 : w3.heap[w.heap.size]? = some (.cells #[.int .i64 D, .int .i64 L, .int .i64 G, .int .u64 t, .int .i64 f, .int .i64 n] 63 (0, 0)) := (hO3.block _ (by have := H1.out.2.2.2; have := H2.out.2.2.2.1; omega) (hne2 _ (Nat.le_refl _))).trans H2.out.2.1
  have hbw3 : Below w.heap.size w w3 := H2.out.2.2.1.trans (hO3.below fun k hk => ⟨by have := H1.out.2.2.2; have := H2.out.2.2.2.1; omega, hne2 k (by omega)⟩)
  have hs3 := Nat.le_trans H2.out.2.2.2.1 hO3.size
  have c3 : w3.cell? ⟨w.heap.size, 5, none⟩ = some (.int .i64 n) := by simp [World.cell?, hbb3]
  have H3 := hide (And.intro ho3 (And.intro hbb3 (And.intro hbw3 hs3)))
  clear ho3 hO3 hat3 hbb3 hbw3 hs3 c2 hne2
  go_wp2_with fail
  refine (append_num (w.heap.size + 1) _ (4 + 8 + 4) (bts [1, D, L, G] ++ bts (be t 8) ++ bts (be f 4)) n 4 w3 H3.out.1 (by have := H1.out.2.2.2; have := H3.out.2.2.2; omega) (by decide) (by decide)).mono ?_
  rintro e w4 ⟨v4, rfl, ho4, hO4, hat4⟩
  have hbw4 : Below w.heap.size w w4 := H3.out.2.2.1.trans (hO4.below fun k hk => ⟨by have := H1.out.2.2.2; have := H3.out.2.2.2; omega, fun e => by have := (H3.out.1.lt k e).1; omega⟩)
  have H4 := hide (And.intro ho4 hbw4)
  clear ho4 hO4 hat4 hbw4 c3
  go_wp2
  go_ret
  obtain ⟨ho4, hbw4⟩ := H4.out
  refine ⟨v4, rfl, ?_, hbw4⟩
  have hl : bts [1, D, L, G] ++ bts (be t 8) ++ bts (be f 4) ++ bts (be n 4) = bts (Rec.root D L G t f n).body := by
    rw [← bts_append, ← bts_append, ← bts_append]
    simp only [Rec.body, Nat.mod_eq_of_lt h1, Nat.mod_eq_of_lt h2, Nat.mod_eq_of_lt h3, List.append_assoc]
  rw [hl] at ho4
  exact Bs.of_owns ho4 (body_lt (r := .root D L G t f n) ⟨h1, h2, h3, h4, h5, h6⟩) (Nat.le_trans (body_len (r := .root D L G t f n) ⟨h1, h2, h3, h4, h5, h6⟩) (by decide))
/-- bytes in mid-block, as a slice -/
theorem Bs.mid {w : World} {b off c : Nat} {l : List Nat} (hc : l.length ≤ c) (hl : l.length ≤ 1000000) (hx : ∀ x ∈ l, x < 256) (h : w.rangeAt b off (bts l)) : Bs w (.slice (some ⟨b, off, none⟩) l.length c) l :=
  ⟨_, c, rfl, hc, by omega, hx, fun _ => ⟨b, off, rfl, fun k hk => h k _ (by unfold bts; rw [List.getElem?_map, List.getElem?_eq_getElem hk, List.getD_eq_getElem?_getD, List.getElem?_eq_getElem hk]; rfl)⟩⟩
theorem range_take {w : World} {b off : Nat} {l : List Nat} (s : Nat) (h : w.rangeAt b off (bts l)) : w.rangeAt b off (bts (l.take s)) := fun j v hv => by
  unfold bts at hv
  rw [List.map_take, List.getElem?_take] at hv
  split at hv
  · exact h j v hv
  · cases hv
theorem range_drop {w : World} {b off : Nat} {l : List Nat} (s : Nat) (h : w.rangeAt b off (bts l)) : w.rangeAt b (off + s) (bts (l.drop s)) := fun j v hv => by
  unfold bts at hv
  rw [List.map_drop, List.getElem?_drop] at hv
  rw [Nat.add_assoc]
  exact h (s + j) v hv
set_option maxRecDepth 100000 in
set_option maxHeartbeats 1000000 in
theorem take_any (q b off c s : Nat) (l : List Nat) (w : World) (hq : w.heap[q]? = some (.cells #[.slice (some ⟨b, off, none⟩) l.length c] 166 (0, 0))) (hc2 : c ≤ 1000) (hx : ∀ x ∈ l, x < 256) (hr : w.rangeAt b off (bts l)) (hs : s ≤ l.length) (hs2 : s < c) :
    Calls Tryz.prog 110 #[.int .i64 s, .pointer (some ⟨q, 0, none⟩)] w fun e w' => e = .returned (.int .u64 (ofB (l.take s) : Nat)) ∧ w' = w.setCell ⟨q, 0, none⟩ (.slice (some ⟨b, off + s, none⟩) (l.length - s) (c - s)) := by
  have hb : Bs w (.slice (some ⟨b, off, none⟩) (l.take s).length c) (l.take s) := Bs.mid (by rw [List.length_take]; omega) (by rw [List.length_take]; omega) (fun x h => hx x (List.mem_of_mem_take h)) (range_take s hr)
  rw [List.length_take, Nat.min_eq_left hs] at hb
  have c0 : w.cell? ⟨q, 0, none⟩ = some (.slice (some ⟨b, off, none⟩) l.length c) := by simp [World.cell?, hq]
  have fz : w.frozen? ⟨q, 0, none⟩ = false := by simp [World.frozen?, hq]
  go_enter Tryz.func110, Tryz.ntmps110
  go_wp2_with fail
  refine (of_num _ (l.take s) w hb).mono ?_
  rintro e w' ⟨rfl, rfl⟩
  have hne : ¬ c = s := by omega
  clear hb hr hx
  go_wp2
  go_ret
  exact ⟨rfl, rfl⟩
/-- while a root is read -/
structure RtS (w0 w : World) (q b off c : Nat) (l : List Nat) (vals : Array Value) : Prop where
  box : w.heap[q]? = some (.cells #[.slice (some ⟨b, off, none⟩) l.length c] 166 (0, 0))
  res : w.heap[q + 1]? = some (.cells #[.int .i64 0, .int .i64 0, .int .i64 0, .int .u64 0, .int .i64 0, .int .i64 0] 63 (0, 0))
  rv : w.heap[q + 1 + 1]? = some (.cells vals 63 (0, 0))
  below : Below q w0 w
  rng : w.rangeAt b off (bts l)
  lt : b < q
theorem heap_setCell_at {w : World} {b j : Nat} {cs : Array Value} {t : TypeId} (h : w.heap[b]? = some (.cells cs t (0, 0))) (v : Value) : (w.setCell ⟨b, j, none⟩ v).heap[b]? = some (.cells (cs.setIfInBounds j v) t (0, 0)) := by
  simp [World.setCell, Array.getElem?_modify, h]
theorem range_set {w : World} {b off : Nat} {l : List Value} (h : w.rangeAt b off l) {a : Addr} (ha : b ≠ a.block) (v : Value) : (w.setCell a v).rangeAt b off l := fun j u hu => by
  have := h j u hu
  rw [← this]
  exact World.cell?_of_block (blk_setCell_other _ _ _ _ ha)
theorem RtS.step {w0 w : World} {q b off c : Nat} {l : List Nat} {vals : Array Value} (h : RtS w0 w q b off c l vals) (s j : Nat) (v : Value) :
    RtS w0 ((w.setCell ⟨q, 0, none⟩ (.slice (some ⟨b, off + s, none⟩) (l.length - s) (c - s))).setCell ⟨q + 1 + 1, j, none⟩ v) q b (off + s) (c - s) (l.drop s) (vals.setIfInBounds j v) := by
  obtain ⟨h1, h2, h3, h4, h5, h6⟩ := h
  refine ⟨?_, ?_, ?_, ?_, ?_, h6⟩
  · rw [blk_setCell_other _ _ _ _ (by show q ≠ q + 1 + 1; omega), heap_setCell_at h1, List.length_drop]; rfl
  · rw [blk_setCell_other _ _ _ _ (by show q + 1 ≠ q + 1 + 1; omega), blk_setCell_other _ _ _ _ (by show q + 1 ≠ q; omega)]; exact h2
  · exact heap_setCell_at ((blk_setCell_other _ _ _ _ (by show q + 1 + 1 ≠ q; omega)).trans h3) v
  · exact (h4.setCell (p := ⟨q, 0, none⟩) (Nat.le_refl _) _).setCell (p := ⟨q + 1 + 1, j, none⟩) (by show q ≤ q + 1 + 1; omega) _
  · exact range_set (range_set (range_drop s h5) (by show b ≠ q; omega) _) (by show b ≠ q + 1 + 1; omega) _
theorem RtS.cells {w0 w : World} {q b off c : Nat} {l : List Nat} {vals : Array Value} (h : RtS w0 w q b off c l vals) (s j : Nat) (u : Value) (hj : vals[j]? = some u) :
    (w.setCell ⟨q, 0, none⟩ (.slice (some ⟨b, off + s, none⟩) (l.length - s) (c - s))).cell? ⟨q + 1 + 1, j, none⟩ = some u ∧ (w.setCell ⟨q, 0, none⟩ (.slice (some ⟨b, off + s, none⟩) (l.length - s) (c - s))).frozen? ⟨q + 1 + 1, j, none⟩ = false := by
  have e : (w.setCell ⟨q, 0, none⟩ (.slice (some ⟨b, off + s, none⟩) (l.length - s) (c - s))).heap[q + 1 + 1]? = _ := (blk_setCell_other _ _ _ _ (by show q + 1 + 1 ≠ q; omega)).trans h.rv
  exact ⟨by simp [World.cell?, e, hj], by simp [World.frozen?, e]⟩
theorem ofB_small : ∀ (l : List Nat), l.length ≤ 7 → (∀ x ∈ l, x < 256) → ofB l < 256 ^ l.length := by
  intro l hl hx
  induction hn : l.length generalizing l with
  | zero =>
    have : l = [] := List.eq_nil_of_length_eq_zero hn
    subst this; decide
  | succ n ih =>
    rcases List.eq_nil_or_concat l with rfl | ⟨l', x, rfl⟩
    · simp at hn
    · rw [List.concat_eq_append] at *
      simp at hn
      have hl' : l'.length ≤ 7 := by simp at hl; omega
      have h1 := ih l' hl' (fun y hy => hx y (by simp [hy])) hn
      have h2 := hx x (by simp)
      rw [ofB_snoc, Nat.pow_succ]
      exact Nat.lt_of_le_of_lt (Nat.mod_le _ _) (by omega)
set_option maxRecDepth 100000 in
set_option maxHeartbeats 4000000 in
theorem rootOf_any (b off : Nat) (l : List Nat) (w : World) (hl : l.length = 59) (hx : ∀ x ∈ l, x < 256) (hr : w.rangeAt b off (bts l)) (hb : b < w.heap.size) :
    Calls Tryz.prog 95 #[.slice (some ⟨b, off, none⟩) l.length 59] w fun e w' => e = .returned (.agg (rootA (ofB (l.take 1)) (ofB ((l.drop 1).take 1)) (ofB ((l.drop 2).take 1)) (ofB ((l.drop 3).take 8)) (ofB ((l.drop 11).take 4)) (ofB ((l.drop 15).take 4)))) ∧ Below w.heap.size w w' := by
  have hmf : ∀ (fn : Fn) (first cap : Array Value) (w : World), (Instr.makeFunc fn first cap).run Tryz.prog w = .ok (.func fn first cap) w := fun _ _ _ _ => rfl
  have hx' : ∀ s, ∀ x ∈ l.drop s, x < 256 := fun s x h => hx x (List.mem_of_mem_drop h)
  have hsm : ∀ s k, k ≤ 7 → ofB ((l.drop s).take k) < 256 ^ k := fun s k hk => by
    have hlen : ((l.drop s).take k).length ≤ k := by rw [List.length_take]; omega
    exact Nat.lt_of_lt_of_le (ofB_small _ (by omega) (fun x h => hx' s x (List.mem_of_mem_take h))) (Nat.pow_le_pow_right (by decide) hlen)
  have h0 : RtS w (((w.alloc (.cells #[.slice (some ⟨b, off, none⟩) l.length 59] 166)).alloc (.cells #[.int .i64 0, .int .i64 0, .int .i64 0, .int .u64 0, .int .i64 0, .int .i64 0] 63)).alloc (.cells #[.int .i64 0, .int .i64 0, .int .i64 0, .int .u64 0, .int .i64 0, .int .i64 0] 63)) w.heap.size b off 59 l #[.int .i64 0, .int .i64 0, .int .i64 0, .int .u64 0, .int .i64 0, .int .i64 0] := by
    refine ⟨?_, ?_, ?_, (((Below.refl _ w).alloc (Nat.le_refl _) _).alloc (by simp) _).alloc (by simp; omega) _, World.rangeAt_alloc (World.rangeAt_alloc (World.rangeAt_alloc hr _) _) _, hb⟩
    · rw [blk_alloc_lt _ _ _ (by simp; omega), blk_alloc_lt _ _ _ (by simp)]; exact blk_alloc_new _ _
    · rw [blk_alloc_lt _ _ _ (by simp)]
      have := blk_alloc_new (w.alloc (.cells #[.slice (some ⟨b, off, none⟩) l.length 59] 166)) (.cells #[.int .i64 0, .int .i64 0, .int .i64 0, .int .u64 0, .int .i64 0, .int .i64 0] 63)
      simpa using this
    · have := blk_alloc_new ((w.alloc (.cells #[.slice (some ⟨b, off, none⟩) l.length 59] 166)).alloc (.cells #[.int .i64 0, .int .i64 0, .int .i64 0, .int .u64 0, .int .i64 0, .int .i64 0] 63)) (.cells #[.int .i64 0, .int .i64 0, .int .i64 0, .int .u64 0, .int .i64 0, .int .i64 0] 63)
      simpa using this
  obtain ⟨w1, hw1⟩ : ∃ w1, ((w.alloc (.cells #[.slice (some ⟨b, off, none⟩) l.length 59] 166)).alloc (.cells #[.int .i64 0, .int .i64 0, .int .i64 0, .int .u64 0, .int .i64 0, .int .i64 0] 63)).alloc (.cells #[.int .i64 0, .int .i64 0, .int .i64 0, .int .u64 0, .int .i64 0, .int .i64 0] 63) = w1 := ⟨_, rfl⟩
  rw [hw1] at h0
  have HX := hide (And.intro hx' (And.intro hsm hl))
  have H0 : Hid (RtS w w1 w.heap.size b (off + 0) 59 (l.drop 0) #[.int .i64 0, .int .i64 0, .int .i64 0, .int .u64 0, .int .i64 0, .int .i64 0]) := h0
  clear h0 hr hx hx' hsm hl hb
  go_enter Tryz.func95, Tryz.ntmps95
  go_wp2_with fail
  obtain ⟨x0, hx0⟩ : ∃ x, ofB ((l.drop 0).take 1) = x := ⟨_, rfl⟩
  have b0 : x0 < 4294967296 := Nat.lt_of_lt_of_le (hx0 ▸ HX.out.2.1 0 1 (by decide)) (by decide)
  have hs0 := H0.out
  refine (take_any w.heap.size b (off + 0) 59 1 (l.drop 0) w1 hs0.box (by decide) (HX.out.1 0) hs0.rng (by rw [List.length_drop, HX.out.2.2]; decide) (by decide)).mono ?_
  rintro e y0 ⟨rfl, hy0⟩
  rw [hx0]
  have hn0 := hs0.step 1 0 (.int .i64 (x0 : Nat))
  obtain ⟨cc0, ff0⟩ := hs0.cells 1 0 _ rfl
  rw [← hy0] at hn0 cc0 ff0
  clear hy0
  obtain ⟨w2, hw2⟩ : ∃ z, y0.setCell ⟨w.heap.size + 1 + 1, 0, none⟩ (.int .i64 (x0 : Nat)) = z := ⟨_, rfl⟩
  rw [hw2] at hn0
  have hm0 : RtS w w2 w.heap.size b (off + 1) 58 (l.drop 1) #[.int .i64 (x0 : Nat), .int .i64 0, .int .i64 0, .int .u64 0, .int .i64 0, .int .i64 0] := by
    rw [List.drop_drop, Nat.add_assoc off] at hn0; exact hn0
  have H1 := hide hm0
  clear hs0 hn0 hm0
  go_wp2_with fail
  obtain ⟨x1, hx1⟩ : ∃ x, ofB ((l.drop 1).take 1) = x := ⟨_, rfl⟩
  have b1 : x1 < 4294967296 := Nat.lt_of_lt_of_le (hx1 ▸ HX.out.2.1 1 1 (by decide)) (by decide)
  have hs1 := H1.out
  refine (take_any w.heap.size b (off + 1) 58 1 (l.drop 1) w2 hs1.box (by decide) (HX.out.1 1) hs1.rng (by rw [List.length_drop, HX.out.2.2]; decide) (by decide)).mono ?_
  rintro e y1 ⟨rfl, hy1⟩
  rw [hx1]
  have hn1 := hs1.step 1 1 (.int .i64 (x1 : Nat))
  obtain ⟨cc1, ff1⟩ := hs1.cells 1 1 _ rfl
  rw [← hy1] at hn1 cc1 ff1
  clear hy1
  obtain ⟨w3, hw3⟩ : ∃ z, y1.setCell ⟨w.heap.size + 1 + 1, 1, none⟩ (.int .i64 (x1 : Nat)) = z := ⟨_, rfl⟩
  rw [hw3] at hn1
  have hm1 : RtS w w3 w.heap.size b (off + 2) 57 (l.drop 2) #[.int .i64 (x0 : Nat), .int .i64 (x1 : Nat), .int .i64 0, .int .u64 0, .int .i64 0, .int .i64 0] := by
    rw [List.drop_drop, Nat.add_assoc off] at hn1; exact hn1
  have H2 := hide hm1
  clear hs1 hn1 hm1
  go_wp2_with fail
  obtain ⟨x2, hx2⟩ : ∃ x, ofB ((l.drop 2).take 1) = x := ⟨_, rfl⟩
  have b2 : x2 < 4294967296 := Nat.lt_of_lt_of_le (hx2 ▸ HX.out.2.1 2 1 (by decide)) (by decide)
  have hs2 := H2.out
  refine (take_any w.heap.size b (off + 2) 57 1 (l.drop 2) w3 hs2.box (by decide) (HX.out.1 2) hs2.rng (by rw [List.length_drop, HX.out.2.2]; decide) (by decide)).mono ?_
  rintro e y2 ⟨rfl, hy2⟩
  rw [hx2]
  have hn2 := hs2.step 1 2 (.int .i64 (x2 : Nat))
  obtain ⟨cc2, ff2⟩ := hs2.cells 1 2 _ rfl
  rw [← hy2] at hn2 cc2 ff2
  clear hy2
  obtain ⟨w4, hw4⟩ : ∃ z, y2.setCell ⟨w.heap.size + 1 + 1, 2, none⟩ (.int .i64 (x2 : Nat)) = z := ⟨_, rfl⟩
  rw [hw4] at hn2
  have hm2 : RtS w w4 w.heap.size b (off + 3) 56 (l.drop 3) #[.int .i64 (x0 : Nat), .int .i64 (x1 : Nat), .int .i64 (x2 : Nat), .int .u64 0, .int .i64 0, .int .i64 0] := by
    rw [List.drop_drop, Nat.add_assoc off] at hn2; exact hn2
  have H3 := hide hm2
  clear hs2 hn2 hm2
  go_wp2_with fail
  obtain ⟨x3, hx3⟩ : ∃ x, ofB ((l.drop 3).take 8) = x := ⟨_, rfl⟩
  have hs3 := H3.out
  refine (take_any w.heap.size b (off + 3) 56 8 (l.drop 3) w4 hs3.box (by decide) (HX.out.1 3) hs3.rng (by rw [List.length_drop, HX.out.2.2]; decide) (by decide)).mono ?_
  rintro e y3 ⟨rfl, hy3⟩
  rw [hx3]
  have hn3 := hs3.step 8 3 (.int .u64 (x3 : Nat))
  obtain ⟨cc3, ff3⟩ := hs3.cells 8 3 _ rfl
  rw [← hy3] at hn3 cc3 ff3
  clear hy3
  obtain ⟨w5, hw5⟩ : ∃ z, y3.setCell ⟨w.heap.size + 1 + 1, 3, none⟩ (.int .u64 (x3 : Nat)) = z := ⟨_, rfl⟩
  rw [hw5] at hn3
  have hm3 : RtS w w5 w.heap.size b (off + 11) 48 (l.drop 11) #[.int .i64 (x0 : Nat), .int .i64 (x1 : Nat), .int .i64 (x2 : Nat), .int .u64 (x3 : Nat), .int .i64 0, .int .i64 0] := by
    rw [List.drop_drop, Nat.add_assoc off] at hn3; exact hn3
  have H4 := hide hm3
  clear hs3 hn3 hm3
  go_wp2_with fail
  obtain ⟨x4, hx4⟩ : ∃ x, ofB ((l.drop 11).take 4) = x := ⟨_, rfl⟩
  have b4 : x4 < 4294967296 := Nat.lt_of_lt_of_le (hx4 ▸ HX.out.2.1 11 4 (by decide)) (by decide)
  have hs4 := H4.out
  refine (take_any w.heap.size b (off + 11) 48 4 (l.drop 11) w5 hs4.box (by decide) (HX.out.1 11) hs4.rng (by rw [List.length_drop, HX.out.2.2]; decide) (by decide)).mono ?_
  rintro e y4 ⟨rfl, hy4⟩
  rw [hx4]
  have hn4 := hs4.step 4 4 (.int .i64 (x4 : Nat))
  obtain ⟨cc4, ff4⟩ := hs4.cells 4 4 _ rfl
  rw [← hy4] at hn4 cc4 ff4
  clear hy4
  obtain ⟨w6, hw6⟩ : ∃ z, y4.setCell ⟨w.heap.size + 1 + 1, 4, none⟩ (.int .i64 (x4 : Nat)) = z := ⟨_, rfl⟩
  rw [hw6] at hn4
  have hm4 : RtS w w6 w.heap.size b (off + 15) 44 (l.drop 15) #[.int .i64 (x0 : Nat), .int .i64 (x1 : Nat), .int .i64 (x2 : Nat), .int .u64 (x3 : Nat), .int .i64 (x4 : Nat), .int .i64 0] := by
    rw [List.drop_drop, Nat.add_assoc off] at hn4; exact hn4
  have H5 := hide hm4
  clear hs4 hn4 hm4
  go_wp2_with fail
  obtain ⟨x5, hx5⟩ : ∃ x, ofB ((l.drop 15).take 4) = x := ⟨_, rfl⟩
  have b5 : x5 < 4294967296 := Nat.lt_of_lt_of_le (hx5 ▸ HX.out.2.1 15 4 (by decide)) (by decide)
  have hs5 := H5.out
  refine (take_any w.heap.size b (off + 15) 44 4 (l.drop 15) w6 hs5.box (by decide) (HX.out.1 15) hs5.rng (by rw [List.length_drop, HX.out.2.2]; decide) (by decide)).mono ?_
  rintro e y5 ⟨rfl, hy5⟩
  rw [hx5]
  have hn5 := hs5.step 4 5 (.int .i64 (x5 : Nat))
  obtain ⟨cc5, ff5⟩ := hs5.cells 4 5 _ rfl
  rw [← hy5] at hn5 cc5 ff5
  clear hy5
  obtain ⟨w7, hw7⟩ : ∃ z, y5.setCell ⟨w.heap.size + 1 + 1, 5, none⟩ (.int .i64 (x5 : Nat)) = z := ⟨_, rfl⟩
  rw [hw7] at hn5
  have hm5 : RtS w w7 w.heap.size b (off + 19) 40 (l.drop 19) #[.int .i64 (x0 : Nat), .int .i64 (x1 : Nat), .int .i64 (x2 : Nat), .int .u64 (x3 : Nat), .int .i64 (x4 : Nat), .int .i64 (x5 : Nat)] := by
    rw [List.drop_drop, Nat.add_assoc off] at hn5; exact hn5
  have H6 := hide hm5
  clear hs5 hn5 hm5
  have g0 : w7.cell? ⟨w.heap.size + 1 + 1, 0, none⟩ = some (.int .i64 (x0 : Nat)) := by simp [World.cell?, H6.out.rv]
  have g1 : w7.cell? ⟨w.heap.size + 1 + 1, 1, none⟩ = some (.int .i64 (x1 : Nat)) := by simp [World.cell?, H6.out.rv]
  have g2 : w7.cell? ⟨w.heap.size + 1 + 1, 2, none⟩ = some (.int .i64 (x2 : Nat)) := by simp [World.cell?, H6.out.rv]
  have g3 : w7.cell? ⟨w.heap.size + 1 + 1, 3, none⟩ = some (.int .u64 (x3 : Nat)) := by simp [World.cell?, H6.out.rv]
  have g4 : w7.cell? ⟨w.heap.size + 1 + 1, 4, none⟩ = some (.int .i64 (x4 : Nat)) := by simp [World.cell?, H6.out.rv]
  have g5 : w7.cell? ⟨w.heap.size + 1 + 1, 5, none⟩ = some (.int .i64 (x5 : Nat)) := by simp [World.cell?, H6.out.rv]
  have r0 : w7.cell? ⟨w.heap.size + 1, 0, none⟩ = some (.int .i64 0) := by simp [World.cell?, H6.out.res]
  have r1 : w7.cell? ⟨w.heap.size + 1, 1, none⟩ = some (.int .i64 0) := by simp [World.cell?, H6.out.res]
  have r2 : w7.cell? ⟨w.heap.size + 1, 2, none⟩ = some (.int .i64 0) := by simp [World.cell?, H6.out.res]
  have r3 : w7.cell? ⟨w.heap.size + 1, 3, none⟩ = some (.int .u64 0) := by simp [World.cell?, H6.out.res]
  have r4 : w7.cell? ⟨w.heap.size + 1, 4, none⟩ = some (.int .i64 0) := by simp [World.cell?, H6.out.res]
  have r5 : w7.cell? ⟨w.heap.size + 1, 5, none⟩ = some (.int .i64 0) := by simp [World.cell?, H6.out.res]
  have rf : ∀ k, w7.frozen? ⟨w.heap.size + 1, k, none⟩ = false := fun k => by simp [World.frozen?, H6.out.res]
  have f0 := rf 0
  have f1 := rf 1
  have f2 := rf 2
  have f3 := rf 3
  have f4 := rf 4
  have f5 := rf 5
  clear rf hw1 hw2 hw3 hw4 hw5 hw6 cc0 cc1 cc2 cc3 cc4 ff0 ff1 ff2 ff3 ff4 H0 H1 H2 H3 H4 H5
  go_wp2
  have hh := heap_setCell_at (j := 5) (heap_setCell_at (j := 4) (heap_setCell_at (j := 3) (heap_setCell_at (j := 2) (heap_setCell_at (j := 1) (heap_setCell_at (j := 0) H6.out.res (.int .i64 (x0 : Nat))) (.int .i64 (x1 : Nat))) (.int .i64 (x2 : Nat))) (.int .u64 (x3 : Nat))) (.int .i64 (x4 : Nat))) (.int .i64 (x5 : Nat))
  refine bodyPost_ret (v := .agg (rootA x0 x1 x2 x3 x4 x5)) (results_cell_row Tryz.results95 _ _ (w.heap.size + 1) 63 (rootA x0 x1 x2 x3 x4 x5) (0, 0) _ rfl hh Tryz.underlying63 rfl (by kernel_rfl)) rfl ?_
  have hbw := H6.out.below
  refine ⟨?_, (((((hbw.setCell (p := ⟨w.heap.size + 1, 0, none⟩) (by show w.heap.size ≤ w.heap.size + 1; omega) _).setCell (p := ⟨w.heap.size + 1, 1, none⟩) (by show w.heap.size ≤ w.heap.size + 1; omega) _).setCell (p := ⟨w.heap.size + 1, 2, none⟩) (by show w.heap.size ≤ w.heap.size + 1; omega) _).setCell (p := ⟨w.heap.size + 1, 3, none⟩) (by show w.heap.size ≤ w.heap.size + 1; omega) _).setCell (p := ⟨w.heap.size + 1, 4, none⟩) (by show w.heap.size ≤ w.heap.size + 1; omega) _).setCell (p := ⟨w.heap.size + 1, 5, none⟩) (by show w.heap.size ≤ w.heap.size + 1; omega) _⟩
  rw [← hx0, ← hx1, ← hx2, ← hx3, ← hx4, ← hx5, List.drop_zero]
end Go.Proofs.YtogdeaaphdlchaaGreatDoor
