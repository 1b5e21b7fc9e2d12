import Derived.Test.YthhommjlomphdabDoorPart04
import Derived.Laws.CopyOwn
import Derived.Deep.MidRow
import Derived.Deep.RegionWith
import Derived.Laws.BitsAllLaws
import Derived.Test.YthhommjlomphdabDoorPart01
/-
  Lists of rows that are read, wherever they lie; the law's own functions that copy them with spare room.
-/
namespace Go.Proofs.YthhommjlomphdabDoor
open Go.RowKit Go.Deep Gf

/-- a list of just these rows, wherever they lie -/
def Rd (w : World) (v : Value) (D : List (List Nat)) : Prop :=
  ∃ ao c, v = .slice ao D.length c ∧ D.length ≤ 5864062014805 ∧ (D ≠ [] → ∃ b off, ao = some ⟨b, off, none⟩ ∧ ∀ i (hi : i < D.length), ∃ u, w.cell? ⟨b, off + i, none⟩ = some u ∧ Bs w u D[i])
theorem Bs.lt {w : World} {v : Value} {l : List Nat} (h : Bs w v l) : ∀ x ∈ l, x < 256 := by
  obtain ⟨_, _, _, _, _, hx, _⟩ := h; exact hx
theorem Rd.mono {w w' : World} {v : Value} {D : List (List Nat)} (h : Rd w v D) (hb : Below w.heap.size w w') : Rd w' v D := by
  obtain ⟨ao, c, h1, h2, h3⟩ := h
  refine ⟨ao, c, h1, h2, fun hD => ?_⟩
  obtain ⟨b, off, e, hc⟩ := h3 hD
  refine ⟨b, off, e, fun i hi => ?_⟩
  obtain ⟨u, hu, hB⟩ := hc i hi
  exact ⟨u, by rw [hb.cell (block_lt_of_cell hu)]; exact hu, hB.mono hb⟩
theorem Rd.cases {w : World} {v : Value} {D : List (List Nat)} (h : Rd w v D) : (D = [] ∧ ∃ ao c, v = .slice ao 0 c) ∨ ∃ b off c, v = .slice (some ⟨b, off, none⟩) D.length c ∧ D.length ≤ 5864062014805 ∧ ∀ i (hi : i < D.length), ∃ u, w.cell? ⟨b, off + i, none⟩ = some u ∧ Bs w u D[i] := by
  obtain ⟨ao, c, h1, h2, h3⟩ := h
  by_cases hD : D = []
  · subst hD; exact .inl ⟨rfl, ao, c, h1⟩
  · obtain ⟨b, off, rfl, hc⟩ := h3 hD
    exact .inr ⟨b, off, c, h1, h2, hc⟩

/-- how much a list weighs, its first k rows -/
def wgt (D : List (List Nat)) (k : Nat) : Nat := D.length + ((D.take k).map List.length).sum
theorem wgt_step (D : List (List Nat)) (k : Nat) (hk : k < D.length) : wgt D (k + 1) = wgt D k + D[k].length := by
  unfold wgt
  rw [List.take_succ_eq_append_getElem hk, List.map_append, List.sum_append]
  simp
  omega
theorem wgt_le (D : List (List Nat)) (k : Nat) : D.length ≤ wgt D k := by unfold wgt; omega
theorem wgt_mono (D : List (List Nat)) (k : Nat) (hk : k ≤ D.length) : wgt D k ≤ wgt D D.length := by
  induction h : D.length - k generalizing k with
  | zero => have : k = D.length := by omega
            rw [this]; exact Nat.le_refl _
  | succ n ih =>
    have := ih (k + 1) (by omega) (by omega)
    rw [wgt_step D k (by omega)] at this
    omega
def WgR (D : List (List Nat)) (n i : Value) : Prop := ∃ k : Nat, k ≤ D.length ∧ n = .int .i64 (wgt D k : Nat) ∧ i = .int .i64 k ∧ wgt D k ≤ 140737488455328
theorem Brow.heap {w : World} {b : Nat} {l : List Nat} (h : Brow w b l) : w.heap[b]? = some (.cells (l.map (fun x => Value.int .u8 ((x : Nat) : Int))).toArray 5 (0, 0)) := by
  obtain ⟨c, hc, hs, hg⟩ := h
  have : c = (l.map (fun x => Value.int .u8 ((x : Nat) : Int))).toArray := by
    apply Array.ext
    · simp [hs]
    · intro i h1 h2
      have := hg i (by omega)
      rw [Array.getElem?_eq_getElem h1] at this
      simp [vb] at this
      have hi : i < l.length := by omega
      simp [this, hi]
  rw [← this]; exact hc
theorem Brow.of_heap {w : World} {b : Nat} {l : List Nat} (h : w.heap[b]? = some (.cells (l.map (fun x => Value.int .u8 ((x : Nat) : Int))).toArray 5 (0, 0))) : Brow w b l :=
  ⟨_, h, by simp, fun i hi => by simp [vb, hi]⟩
/-- copy into a row of the call's own, from its head on -/
theorem wpList_cp {w : World} {ops : Array Oper} {rest : List Oper} {o : Oper} {a : Act} {Q : Exit → Act → World → Prop} (hgd : o.guard = none) (d s : Operand)
    (ho : o.op = .call { callee := .builtin .copy, args := #[d, s], argTypes := #[59, 59] }) (g n cap : Nat) (v : Value) (hd : a.eval d = .slice (some ⟨g, 0, none⟩) n cap) (hs : a.eval s = v)
    (old src : List Nat) (hB : Brow w g old) (hS : Bs w v src) (hle : src.length ≤ n) (hn : n ≤ old.length) (B : Nat) (w0 : World) (hb : Below B w0 w) (hBg : B ≤ g)
    (h : ∀ w', Brow w' g (src ++ old.drop src.length) → Below B w0 w' → wpList Tryd.prog ops Q rest (a.put o.dst (goInt src.length)) w') : wpList Tryd.prog ops Q (o :: rest) a w := by
  obtain ⟨ao, c, rfl, h1, h2, h3, h4⟩ := hS
  refine wpList_copy_splice hgd d s 59 59 ho 5 Tryd.underlying59 (by kernel_rfl) (some ⟨g, 0, none⟩) ao n cap src.length c hd hs g 0 _ 5 hB.heap (src.map (fun x => Value.int .u8 ((x : Nat) : Int))) ?_ ?_ ?_ ?_ B w0 hb hBg ?_
  · rw [List.length_map]
    show src.length = min src.length n
    omega
  · intro hp
    rw [List.length_map] at hp
    obtain ⟨b, off, rfl, hc⟩ := h4 (by intro e; rw [e] at hp; simp at hp)
    refine ⟨rfl, _, rfl, fun j u hj => ?_⟩
    have hjl : j < src.length := by
      have := List.getElem?_eq_some_iff.1 hj
      obtain ⟨q, _⟩ := this
      simpa using q
    rw [Addr.add_mid, hc j hjl]
    simp [hjl] at hj
    simp [hjl, hj]
  · simp; omega
  · intro u hu
    obtain ⟨x, _, rfl⟩ := List.mem_map.1 hu
    rfl
  · intro w' hw' hb'
    have e : (splice (old.map (fun x => Value.int .u8 ((x : Nat) : Int))) 0 (src.map (fun x => Value.int .u8 ((x : Nat) : Int)))) = (src ++ old.drop src.length).map (fun x => Value.int .u8 ((x : Nat) : Int)) := by
      simp [splice]
    have hw := hw'.out
    rw [e] at hw
    rw [List.length_map]
    exact h w' (Brow.of_heap hw) hb'
theorem room_start (l : List Nat) : l ++ (List.replicate (l.length + 2) 0).drop l.length = l ++ [0, 0] := by
  rw [List.drop_replicate, Nat.add_sub_cancel_left]; rfl
theorem room_end (l : List Nat) : ((l ++ [0, 0]).set l.length 71).set (l.length + 1) 72 = l ++ [71, 72] := by
  rw [List.set_append_right _ _ (Nat.le_refl _), List.set_append_right _ _ (by omega)]
  simp
/-- a list of rows with their spare room -/
def RoomOf (T : List (Nat × Nat × List Nat)) (D : List (List Nat)) : Prop := T.map (fun p => p.2) = D.map (fun l => (l.length, l ++ [71, 72]))
theorem RoomOf.len {T : List (Nat × Nat × List Nat)} {D : List (List Nat)} (h : RoomOf T D) : T.length = D.length := by simpa using congrArg List.length h
theorem RoomOf.push {T : List (Nat × Nat × List Nat)} {D : List (List Nat)} (h : RoomOf T D) (b : Nat) (l : List Nat) : RoomOf (T ++ [(b, l.length, l ++ [71, 72])]) (D ++ [l]) := by
  unfold RoomOf at *
  simp [h]
def RmR (w : World) (B : Nat) (D : List (List Nat)) (v i : Value) (wr : World) : Prop :=
  ∃ k T, k ≤ D.length ∧ i = .int .i64 (k : Nat) ∧ Tab wr B v T ∧ RoomOf T (D.take k) ∧ Below B w wr ∧ B ≤ wr.heap.size
theorem row_le (D : List (List Nat)) (i : Nat) (hi : i < D.length) (h : wgt D D.length ≤ 100000) : (D[i]).length ≤ 100000 := by
  have h1 := wgt_step D i hi
  have h2 := wgt_mono D (i + 1) (by omega)
  omega
/-- the first i rows have been written into -/
def stl (T : List (Nat × Nat × List Nat)) (i : Nat) : List (Nat × Nat × List Nat) :=
  (List.range T.length).map fun j => if j < i then ((T.getD j (0, 0, [])).1, (T.getD j (0, 0, [])).2.1, xr 85 (T.getD j (0, 0, [])).2.2) else T.getD j (0, 0, [])
theorem stl_len (L : List (Nat × Nat × List Nat)) (i : Nat) : (stl L i).length = L.length := by simp [stl]
theorem stl_zero (L : List (Nat × Nat × List Nat)) : stl L 0 = L := by
  unfold stl
  apply List.ext_getElem
  · simp
  · intro j h1 h2; simp [h2]
theorem stl_ge (L : List (Nat × Nat × List Nat)) (i j : Nat) (hj : j < L.length) (h : i ≤ j) (h' : j < (stl L i).length) : (stl L i)[j] = L[j] := by
  simp [stl, hj, Nat.not_lt.2 h]
theorem stl_lt (L : List (Nat × Nat × List Nat)) (i j : Nat) (hj : j < L.length) (h : j < i) (h' : j < (stl L i).length) : (stl L i)[j] = (L[j].1, L[j].2.1, xr 85 L[j].2.2) := by
  simp [stl, hj, h]
theorem stl_step (L : List (Nat × Nat × List Nat)) (i : Nat) (hi : i < L.length) : (stl L i).set i (L[i].1, L[i].2.1, xr 85 L[i].2.2) = stl L (i + 1) := by
  apply List.ext_getElem
  · simp [stl]
  · intro j h1 h2
    have hj : j < L.length := by simpa [stl] using h2
    rw [List.getElem_set]
    by_cases e : i = j
    · subst e; rw [if_pos rfl, stl_lt L _ _ hi (by omega)]
    · rw [if_neg e]
      by_cases e2 : j < i
      · rw [stl_lt L _ _ hj e2, stl_lt L _ _ hj (by omega)]
      · rw [stl_ge L _ _ hj (by omega), stl_ge L _ _ hj (by omega)]
theorem RoomOf.at {T : List (Nat × Nat × List Nat)} {D : List (List Nat)} (h : RoomOf T D) {i : Nat} (h1 : i < T.length) (h2 : i < D.length) : T[i].2 = ((D[i]).length, D[i] ++ [71, 72]) := by
  have := List.getElem_of_eq h (i := i) (by simpa using h1)
  simpa using this
theorem Tab.cell_at {w : World} {base g n cap : Nat} {L : List (Nat × Nat × List Nat)} (h : Tab w base (.slice (some ⟨g, 0, none⟩) n cap) L) {i : Nat} (hi : i < L.length) : w.cell? ⟨g, i, none⟩ = some (hdr L[i]) := by
  have := h.own.cells (g := g) rfl i (hdr L[i]) (by simp [hi])
  rw [add0] at this
  exact this
theorem Tab.slice {w : World} {base : Nat} {v : Value} {L : List (Nat × Nat × List Nat)} (h : Tab w base v L) : ∃ ao cap, v = .slice ao L.length cap ∧ (L ≠ [] → ∃ g, ao = some ⟨g, 0, none⟩) := by
  rcases h.shape with ⟨rfl, rfl⟩ | ⟨g, cap, rfl, _⟩
  · exact ⟨none, 0, rfl, fun h => absurd rfl h⟩
  · exact ⟨_, cap, rfl, fun _ => ⟨g, rfl⟩⟩
/-- only these rows are written into -/
structure Only (T : List (Nat × Nat × List Nat)) (w w' : World) : Prop where
  os : w'.os = w.os
  tape : w'.tape = w.tape
  output : w'.output = w.output
  size : w.heap.size ≤ w'.heap.size
  block : ∀ k, k < w.heap.size → (∀ p ∈ T, p.1 ≠ k) → w'.heap[k]? = w.heap[k]?
theorem Only.refl (T : List (Nat × Nat × List Nat)) (w : World) : Only T w w := ⟨rfl, rfl, rfl, Nat.le_refl _, fun _ _ _ => rfl⟩
theorem Only.step {T : List (Nat × Nat × List Nat)} {w wo w' : World} {b : Nat} (h : Only T w wo) (hg : wo.grownBy w' (some b)) (hb : ∃ p ∈ T, p.1 = b) : Only T w w' :=
  ⟨hg.os.trans h.os, hg.tape.trans h.tape, hg.output.trans h.output, Nat.le_trans h.size hg.size, fun k hk hne => by
    obtain ⟨p, hp, e⟩ := hb
    rw [hg.block k (Nat.lt_of_lt_of_le hk h.size) (by intro q; simp at q; exact hne p hp (by omega)), h.block k hk hne]⟩
theorem Only.below {T : List (Nat × Nat × List Nat)} {w w' : World} {B : Nat} (h : Only T w w') (hT : ∀ p ∈ T, B ≤ p.1) (hB : B ≤ w.heap.size) : Below B w w' :=
  ⟨h.os, h.tape, h.output, h.size, fun k hk => h.block k (by omega) (fun p hp e => by have := hT p hp; omega)⟩
theorem Tab.only {T S : List (Nat × Nat × List Nat)} {w w' : World} {B B' : Nat} {v v' : Value} (hS : Tab w B v S) (hT : Tab w B' v' T) (hap : Apart S T) (h : Only T w w') : Tab w' B v S := by
  refine ⟨⟨hS.own.1, ?_⟩, fun p hp => ?_, hS.nodup⟩
  · rcases hS.own.2 with h0 | ⟨g, cap, cur, e1, e2, e3, e4⟩
    · exact .inl h0
    · refine .inr ⟨g, cap, cur, e1, e2, ?_, e4⟩
      obtain ⟨hlt, _⟩ := Array.getElem?_eq_some_iff.1 e3
      rw [h.block g hlt]
      · exact e3
      · intro p hp e
        obtain ⟨c, hc, _⟩ := (hT.row p hp).2.1
        rw [e, e3] at hc
        simp at hc
  · obtain ⟨a, b, c⟩ := hS.row p hp
    exact ⟨a, World.rowIs.of_block b (h.block p.1 b.lt (fun q hq e => hap p hp q hq e.symm)), c⟩
def AsR (w : World) (B : Nat) (v : Value) (T : List (Nat × Nat × List Nat)) (n : Nat) (i o : Value) (wr : World) : Prop :=
  ∃ k : Nat, k ≤ n ∧ i = .int .i64 k ∧ o = .bool true ∧ Tab wr B v (stl T k) ∧ Only T w wr ∧ B ≤ wr.heap.size
/-- rows with their spare room are read as the rows -/
theorem Tab.rd {w : World} {B : Nat} {v : Value} {T : List (Nat × Nat × List Nat)} {D : List (List Nat)} (h : Tab w B v T) (hR : RoomOf T D) (hl : D.length ≤ 100000) : Rd w v D := by
  have hlen := hR.len
  obtain ⟨ao, cap, rfl, hao⟩ := h.slice
  refine ⟨ao, cap, by rw [hlen], by omega, fun hD => ?_⟩
  obtain ⟨g, rfl⟩ := hao (by intro e; rw [e] at hlen; exact hD (List.eq_nil_of_length_eq_zero hlen.symm))
  refine ⟨g, 0, rfl, fun i hi => ?_⟩
  have hiT : i < T.length := by omega
  refine ⟨hdr T[i], by rw [Nat.zero_add]; exact h.cell_at hiT, ?_⟩
  have := h.row_at hiT
  have hat := hR.at hiT hi
  rw [hat] at this
  have e : (D[i] ++ [71, 72]).take (D[i]).length = D[i] := by simp
  rw [e] at this
  exact this
end Go.Proofs.YthhommjlomphdabDoor
/-
  The rows of the shards that are not lost: the program's kept.
-/
namespace Go.Proofs.YthhommjlomphdabDoor
open Go.RowKit Go.Deep Gf

theorem bit_u64 (lost k : Nat) (hl : lost < 18446744073709551616) : bits .and .u64 ((lost : Int) / 2 ^ k) 1 = ((lost / 2 ^ k % 2 : Nat) : Int) := by
  have c : (lost : Int) / 2 ^ k = ((lost / 2 ^ k : Nat) : Int) := by simp
  have h : lost / 2 ^ k < 18446744073709551616 := Nat.lt_of_le_of_lt (Nat.div_le_self _ _) hl
  have e := u64_and_nat (lost / 2 ^ k) 1 h (by decide)
  rw [and1] at e
  rw [c]; exact e
/-- a list that the call made, of rows that were there before it -/
def Rl (w0 w : World) (v : Value) (K : List (List Nat)) : Prop :=
  ∃ xs : List Value, xs.length = K.length ∧ (∀ i (h : i < xs.length) (h' : i < K.length), Bs w0 xs[i] K[i]) ∧ w.ownsRow w0.heap.size 59 1 v xs.length xs ∧ Below w0.heap.size w0 w
theorem Rl.nil (w : World) : Rl w w (.slice none 0 0) [] := ⟨[], rfl, fun i h => absurd h (by simp), World.ownsRow_nil _ _ _ _, Below.refl _ _⟩
theorem Rl.rd {w0 w : World} {v : Value} {K : List (List Nat)} (h : Rl w0 w v K) (hl : K.length ≤ 100000) : Rd w v K := by
  obtain ⟨xs, hlen, hB, hown, hb⟩ := h
  rcases hown.2 with ⟨h0, h1⟩ | ⟨g, cap, cur, e1, e2, e3, e4, e5, e6, e7⟩
  · have : K = [] := List.eq_nil_of_length_eq_zero (by omega)
    subst this
    exact ⟨none, 0, h0, by simp, fun h => absurd rfl h⟩
  · refine ⟨some ⟨g, 0, none⟩, cap, by rw [e1, hlen], by omega, fun _ => ⟨g, 0, rfl, fun i hi => ?_⟩⟩
    have hix : i < xs.length := by omega
    have := hown.cells (g := g) (by rw [e1]; rfl) i xs[i] (by simp [hix])
    rw [add0] at this
    exact ⟨xs[i], by rw [Nat.zero_add]; exact this, (hB i hix hi).mono hb⟩
theorem Rl.push {w0 w w1 w2 : World} {v v' u : Value} {K : List (List Nat)} {l : List Nat} {o : Obj} {xs : List Value} (hlen : xs.length = K.length) (hB : ∀ i (h : i < xs.length) (h' : i < K.length), Bs w0 xs[i] K[i])
    (hown : w.ownsRow w0.heap.size 59 1 v xs.length xs) (hb : Below w0.heap.size w0 w) (hw : w1 = w.alloc o) (hu : Bs w0 u l)
    (hg : w1.grownBy w2 v.ownBlock) (hown' : w2.ownsRow w0.heap.size 59 1 v' (xs.length + 1) (xs ++ [u])) : Rl w0 w2 v' (K ++ [l]) := by
  subst hw
  refine ⟨xs ++ [u], by simp [hlen], fun i h h' => ?_, by simpa using hown', (hb.alloc hb.size o).grown hg (by rw [nblk_alloc]; have := hb.size; omega) fun k hk => (hown.lt k hk).1⟩
  by_cases hi : i < xs.length
  · rw [List.getElem_append_left hi, List.getElem_append_left (by omega)]
    exact hB i hi (by omega)
  · have e : i = xs.length := by simp at h; omega
    subst e
    rw [List.getElem_append_right (Nat.le_refl _), List.getElem_append_right (by omega)]
    simpa [hlen] using hu
theorem Bs.one {w : World} {u : Value} {l : List Nat} (h : Bs w u l) : u.oneCell' = true := by
  obtain ⟨ao, c, rfl, _⟩ := h
  rfl
def KpR (w : World) (M : List (List Nat)) (lost : Nat) (v i : Value) (wr : World) : Prop := ∃ k : Nat, k ≤ M.length ∧ i = .int .i64 k ∧ Rl w wr v (keepTo M lost k)
end Go.Proofs.YthhommjlomphdabDoor
/-
  Lists of rows that are exchanged, and worked off: what becomes of them.
-/
namespace Go.Proofs.YthhommjlomphdabDoor
open Go.RowKit Go.Deep Gf

/-- two rows are exchanged -/
def swp (T : List (Nat × Nat × List Nat)) (p r : Nat) : List (Nat × Nat × List Nat) := (T.set p (T.getD r (0, 0, []))).set r (T.getD p (0, 0, []))
theorem swp_len (T : List (Nat × Nat × List Nat)) (p r : Nat) : (swp T p r).length = T.length := by simp [swp]
theorem swp_get (T : List (Nat × Nat × List Nat)) (p r i : Nat) (hp : p < T.length) (hr : r < T.length) (hi : i < T.length) (h' : i < (swp T p r).length) :
    (swp T p r)[i] = if i = r then T[p] else if i = p then T[r] else T[i] := by
  have e1 : T.getD p (0, 0, []) = T[p] := by simp [hp]
  have e2 : T.getD r (0, 0, []) = T[r] := by simp [hr]
  apply Option.some.inj
  rw [← List.getElem?_eq_getElem h']
  unfold swp
  rw [e1, e2, List.getElem?_set, List.getElem?_set]
  by_cases c1 : r = i
  · subst c1; simp [hr]
  · by_cases c2 : p = i
    · subst c2; simp [hp, c1, Ne.symm c1]
    · simp [c1, c2, Ne.symm c1, Ne.symm c2, hi]
theorem swp_mem (T : List (Nat × Nat × List Nat)) (p r : Nat) (hp : p < T.length) (hr : r < T.length) : ∀ x ∈ swp T p r, x ∈ T := by
  intro x hx
  obtain ⟨i, hi, rfl⟩ := List.mem_iff_getElem.1 hx
  have hi' : i < T.length := by rw [swp_len] at hi; exact hi
  rw [swp_get T p r i hp hr hi']
  split
  · exact List.getElem_mem _
  · split
    · exact List.getElem_mem _
    · exact List.getElem_mem _
theorem Tab.swap {w : World} {B g n cap : Nat} {T : List (Nat × Nat × List Nat)} (h : Tab w B (.slice (some ⟨g, 0, none⟩) n cap) T) {p r : Nat} (hp : p < T.length) (hr : r < T.length) :
    Tab ((w.setCell ⟨g, p, none⟩ (hdr T[r])).setCell ⟨g, r, none⟩ (hdr T[p])) B (.slice (some ⟨g, 0, none⟩) n cap) (swp T p r) := by
  obtain ⟨e0, h2⟩ := h.own
  have hne : ∀ q ∈ T, q.1 ≠ g := fun q hq e => own_ne h.own (h.row q hq).2.1 (by rw [e]; rfl)
  have hrow : ∀ q ∈ T, Brow ((w.setCell ⟨g, p, none⟩ (hdr T[r])).setCell ⟨g, r, none⟩ (hdr T[p])) q.1 q.2.2 := fun q hq =>
    ((h.row q hq).2.1.other (a := ⟨g, p, none⟩) (hne q hq) _).other (a := ⟨g, r, none⟩) (hne q hq) _
  refine ⟨⟨by simp [swp], ?_⟩, fun q hq => ?_, ?_⟩
  · rcases h2 with ⟨h0, _⟩ | ⟨g', cap', cur, e1, e2, e3, e4, e5, e6, e7⟩
    · simp at h0
    · simp at e1
      obtain ⟨rfl, rfl, rfl⟩ := e1
      refine .inr ⟨g, cap, (cur.setIfInBounds p (hdr T[r])).setIfInBounds r (hdr T[p]), by rw [swp_len], e2, ?_, by rw [swp_len]; exact e4, e5, by simpa using e6, ?_⟩
      · simp [World.setCell, Array.getElem?_modify, e3]
      · rw [swp_len]
        simp only [Array.toList_setIfInBounds]
        rw [List.take_set, List.take_set, e7]
        apply List.ext_getElem
        · simp [swp]
        · intro i h1 h2
          have hi : i < T.length := by simpa [swp] using h2
          rw [List.getElem_map, swp_get T p r i hp hr hi]
          simp only [List.getElem_set, List.getElem_map]
          by_cases c1 : r = i
          · subst c1; simp
          · by_cases c2 : p = i
            · subst c2; simp [c1, Ne.symm c1]
            · simp [c1, c2, Ne.symm c1, Ne.symm c2]
  · have hq' := swp_mem T p r hp hr q hq
    obtain ⟨a1, a2, a3⟩ := h.row q hq'
    exact ⟨a1, hrow q hq', a3⟩
  · have hnd := List.pairwise_iff_getElem.1 h.nodup
    have key : ∀ i j (hi : i < T.length) (hj : j < T.length), i ≠ j → T[i].1 ≠ T[j].1 := by
      intro i j hi hj hij e
      rcases Nat.lt_or_gt_of_ne hij with h' | h'
      · exact hnd i j (by simpa using hi) (by simpa using hj) h' (by simpa using e)
      · exact hnd j i (by simpa using hj) (by simpa using hi) h' (by simpa using e.symm)
    refine List.pairwise_iff_getElem.2 fun i j hi hj hij => ?_
    have hi' : i < T.length := by simpa [swp] using hi
    have hj' : j < T.length := by simpa [swp] using hj
    rw [List.getElem_map, List.getElem_map, swp_get T p r i hp hr hi', swp_get T p r j hp hr hj']
    by_cases c1 : i = r
    · rw [if_pos c1]
      by_cases c2 : j = r
      · omega
      · rw [if_neg c2]
        by_cases c3 : j = p
        · rw [if_pos c3]; exact key p r hp hr (by omega)
        · rw [if_neg c3]; exact key p j hp hj' (fun h => c3 h.symm)
    · rw [if_neg c1]
      by_cases c2 : i = p
      · rw [if_pos c2]
        by_cases c3 : j = r
        · rw [if_pos c3]; exact key r p hr hp (by omega)
        · rw [if_neg c3]
          by_cases c4 : j = p
          · omega
          · rw [if_neg c4]; exact key r j hr hj' (fun h => c3 h.symm)
      · rw [if_neg c2]
        by_cases c3 : j = r
        · rw [if_pos c3]; exact key i p hi' hp c2
        · rw [if_neg c3]
          by_cases c4 : j = p
          · rw [if_pos c4]; exact key i r hi' hr c1
          · rw [if_neg c4]; exact key i j hi' hj' (by omega)
/-- a multiple of lp is added to l, from c on, as far as j -/
def adTo (l lp : List Nat) (f c j : Nat) : List Nat := (List.range l.length).map fun q => if c ≤ q ∧ q < j then l.getD q 0 ^^^ gm f (lp.getD q 0) else l.getD q 0
theorem adTo_len (l lp : List Nat) (f c j : Nat) : (adTo l lp f c j).length = l.length := by simp [adTo]
theorem adTo_start (l lp : List Nat) (f c : Nat) : adTo l lp f c c = l := by
  unfold adTo
  apply List.ext_getElem
  · simp
  · intro q h1 h2
    simp [h2]
    omega
theorem adTo_get (l lp : List Nat) (f c j : Nat) (hj : j < l.length) : (adTo l lp f c j).getD j 0 = l.getD j 0 := by simp [adTo, hj]
theorem adTo_step (l lp : List Nat) (f c j : Nat) (hc : c ≤ j) : (adTo l lp f c j).set j (l.getD j 0 ^^^ gm f (lp.getD j 0)) = adTo l lp f c (j + 1) := by
  unfold adTo
  apply List.ext_getElem
  · simp
  · intro q h1 h2
    simp [List.getElem_set]
    by_cases e : j = q
    · subst e; simp [hc]
    · simp only [if_neg e]
      by_cases e2 : c ≤ q ∧ q < j
      · rw [if_pos e2, if_pos ⟨e2.1, by omega⟩]
      · rw [if_neg e2, if_neg (by omega)]
theorem adTo_lt {l lp : List Nat} (hl : ∀ x ∈ l, x < 256) {f : Nat} (hf : f < 256) (c j : Nat) : ∀ x ∈ adTo l lp f c j, x < 256 := by
  intro x hx
  obtain ⟨q, _, rfl⟩ := List.mem_map.1 hx
  have := getD_lt hl q
  split
  · exact xlt this (gm_lt _ hf)
  · exact this
theorem adTo_vec (l lp : List Nat) (f c W : Nat) (h1 : l.length = W) (h2 : lp.length = W) (hz : ∀ q, q < c → vec lp q = 0) : vec (adTo l lp f c W) = addV (vec l) f (vec lp) := by
  funext q
  show (adTo l lp f c W).getD q 0 = l.getD q 0 ^^^ gm f (lp.getD q 0)
  by_cases hq : q < W
  · by_cases hc : c ≤ q
    · simp [adTo, h1, hq, hc]
    · have : lp.getD q 0 = 0 := hz q (by omega)
      rw [this, gm_zero, Nat.xor_zero]
      simp [adTo, h1, hq, hc]
  · have e1 : lp.getD q 0 = 0 := by simp [List.getElem?_eq_none (show lp.length ≤ q by omega)]
    have e2 : l.getD q 0 = 0 := by simp [List.getElem?_eq_none (show l.length ≤ q by omega)]
    have e3 : (adTo l lp f c W).getD q 0 = 0 := by
      rw [List.getD_eq_getElem?_getD, List.getElem?_eq_none (by rw [adTo_len]; omega)]; rfl
    rw [e1, e2, e3, gm_zero]
    exact (Nat.xor_self 0).symm
end Go.Proofs.YthhommjlomphdabDoor
