import Derived.Test.YtogdeaaphdlchaaGreatDoorPart17
import Derived.Test.YtogdeaaphdlchaaGreatDoorPart13
import Derived.Test.YtogdeaaphdlchaaGreatDoorPart09
import Derived.Test.YtogdeaaphdlchaaGreatDoorPart01
import Derived.Test.YtogdeaaphdlchaaGreatDoorPart11
import Derived.Test.YtogdeaaphdlchaaGreatDoorPart06
import Derived.Test.YtogdeaaphdlchaaGreatDoorPart04
import Derived.Test.YtogdeaaphdlchaaGreatDoorPart12
/-
  The data shards of a stripe are its data.
-/
namespace Go.Proofs.YtogdeaaphdlchaaGreatDoor
open Go.RowKit Go.Deep Gf

theorem one_gmS {x : Nat} (hx : x < 256) : gm 1 x = x := by rw [gm_comm (by decide) hx, gm_one x hx]
theorem dataL_at (D i t : Nat) (hi : i < D) : (dataL D i).getD t 0 = if t = i then 1 else 0 := by
  unfold dataL
  rw [List.getD_eq_getElem?_getD, List.getElem?_set]
  by_cases e : t = i
  · subst e
    simp [hi]
  · rw [if_neg (fun q => e q.symm), if_neg e, List.getElem?_replicate]
    split <;> rfl
theorem acc_unit (D i q : Nat) (hi : i < D) (Dt : List (List Nat)) (hb : (Dt.getD i []).getD q 0 < 256) : ∀ t, acc (dataL D i) Dt t q = if i < t then (Dt.getD i []).getD q 0 else 0
  | 0 => by rw [if_neg (by omega)]; rfl
  | t + 1 => by
    show acc (dataL D i) Dt t q ^^^ gm ((dataL D i).getD t 0) ((Dt.getD t []).getD q 0) = _
    rw [acc_unit D i q hi Dt hb t, dataL_at D i t hi]
    by_cases e : t = i
    · subst e
      rw [if_neg (by omega), if_pos rfl, one_gmS hb, if_pos (by omega), Nat.zero_xor]
    · rw [if_neg e, zero_gm, Nat.xor_zero]
      by_cases e2 : i < t
      · rw [if_pos e2, if_pos (by omega)]
      · rw [if_neg e2, if_neg (by omega)]
theorem mat_dataS (D L G i : Nat) (hi : i < D) : ∃ h : i < (matL D L G).length, (matL D L G)[i] = dataL D i := by
  have hl : i < (matL D L G).length := by rw [mat_len]; omega
  refine ⟨hl, ?_⟩
  have h1 : (matL D L G)[i]? = some (dataL D i) := by
    unfold matL
    rw [List.getElem?_append_left (by simp; omega), List.getElem?_append_left (by simp; omega)]
    simp [hi]
  rw [List.getElem?_eq_getElem hl] at h1
  exact Option.some.inj h1
theorem padD_ltS {D : Nat} {dl : List Nat} (hx : ∀ x ∈ dl, x < 256) : ∀ x ∈ padD D dl, x < 256 := by
  intro x h
  unfold padD at h
  rcases List.mem_append.1 h with q | q
  · exact hx x q
  · rw [List.eq_of_mem_replicate q]; decide
theorem stripe_data {D L G i : Nat} {dl : List Nat} (hi : i < D) (hl : dl.length ≤ D * 44) (hx : ∀ x ∈ dl, x < 256) : (stripeL D L G dl).getD i [] = ((padD D dl).drop (i * 44)).take 44 := by
  obtain ⟨hm, he⟩ := mat_dataS D L G i hi
  have e : (stripeL D L G dl).getD i [] = combTo (matL D L G)[i] (rowsD D dl) 44 (rowsD D dl).length := by simp [stripeL, encL, hm]
  rw [e, he, rowsD_len]
  have hr : (rowsD D dl).getD i [] = ((padD D dl).drop (i * 44)).take 44 := by simp [rowsD, hi]
  have hlen := rowsD_row hl hi
  unfold combTo
  apply List.ext_getElem
  · simp [hlen]
  · intro q h1 h2
    have hq : ((rowsD D dl).getD i []).getD q 0 = (((padD D dl).drop (i * 44)).take 44)[q] := by rw [hr, List.getD_eq_getElem?_getD, List.getElem?_eq_getElem h2]; rfl
    have hb : ((rowsD D dl).getD i []).getD q 0 < 256 := by rw [hq]; exact padD_ltS hx _ (List.mem_of_mem_drop (List.mem_of_mem_take (List.getElem_mem h2)))
    rw [List.getElem_map, List.getElem_range, acc_unit D i q hi _ hb, if_pos hi, hq]
theorem data_flat {D : Nat} {dl : List Nat} : ∀ m, ((List.range m).map fun i => ((padD D dl).drop (i * 44)).take 44).flatten = (padD D dl).take (44 * m)
  | 0 => by simp
  | m + 1 => by
    rw [List.range_succ, List.map_append, List.flatten_append, data_flat m, show 44 * (m + 1) = 44 * m + 44 by omega, List.take_add]
    simp [Nat.mul_comm]
theorem pad_take {D size : Nat} {dl : List Nat} (h : size ≤ dl.length) : (padD D dl).take size = dl.take size := by
  unfold padD
  rw [List.take_append_of_le_length h]
/-- what is read of a stripe -/
theorem data_take {D L G m size : Nat} {dl : List Nat} (hm : m = (size + 43) / 44) (hmD : m ≤ D) (hl : dl.length ≤ D * 44) (hx : ∀ x ∈ dl, x < 256) (hs : size ≤ dl.length) : ((List.range m).map fun i => (stripeL D L G dl).getD i []).flatten.take size = dl.take size := by
  have e : ((List.range m).map fun i => (stripeL D L G dl).getD i []) = (List.range m).map fun i => ((padD D dl).drop (i * 44)).take 44 := by
    apply List.map_congr_left
    intro i hi
    exact stripe_data (by have := List.mem_range.1 hi; omega) hl hx
  rw [e, data_flat, List.take_take, show min size (44 * m) = size by omega, pad_take hs]
end Go.Proofs.YtogdeaaphdlchaaGreatDoor
/-
  Reader, with the blocks that it makes.
-/
namespace Go.Proofs.YtogdeaaphdlchaaGreatDoor
open Go.RowKit Go.Deep Gf

set_option maxRecDepth 100000 in
set_option maxHeartbeats 1000000 in
theorem shards_sz (D L G : Int) (w : World) (h1 : 0 ≤ D ∧ D ≤ 100) (h2 : 0 ≤ L ∧ L ≤ 100) (h3 : 0 ≤ G ∧ G ≤ 100) : Calls Tryz.prog 16 #[.agg #[.int .i64 D, .int .i64 L, .int .i64 G]] w fun e w' => e = .returned (.int .i64 (D + L + G)) ∧ w' = w.alloc (.cells #[.int .i64 D, .int .i64 L, .int .i64 G] 23) := by
  obtain ⟨a1, a2⟩ := h1
  obtain ⟨b1, b2⟩ := h2
  obtain ⟨c1, c2⟩ := h3
  go_enter Tryz.func16, Tryz.ntmps16
  go_wp2
  go_ret
  exact ⟨rfl, rfl⟩
set_option maxRecDepth 100000 in
set_option maxHeartbeats 1000000 in
theorem reader_at {w : World} {v p D L G ps ho : Nat} (h : VolAt w v p D L G ps ho) (hD : D ≤ 12) (hL : L ≤ 4) (hG : G ≤ 4) {N : Nat} (hN : N = D + L + G) : Calls Tryz.prog 79 #[.pointer (some ⟨v, 0, none⟩)] w fun e w' => e = .returned (.pointer (some ⟨w.heap.size + 2, 0, none⟩)) ∧ RdAt w' (w.heap.size + 2) v 0 (w.heap.size + 1) N 0 0 ∧ w'.rowIs (w.heap.size + 1) 166 N (fun _ => .slice none 0 0) ∧ Below w.heap.size w w' := by
  obtain ⟨_, c1, c2, c3, _⟩ := h.cells
  go_enter Tryz.func79, Tryz.ntmps79
  go_wp2_with fail
  refine (shards_sz (D : Int) (L : Int) (G : Int) w ⟨by omega, by omega⟩ ⟨by omega, by omega⟩ ⟨by omega, by omega⟩).mono ?_
  rintro e w5 ⟨rfl, hw5⟩
  rw [show ((D : Int) + (L : Int) + (G : Int)) = (N : Int) by omega]
  have hN1 : N ≤ 20 := by omega
  have hb5 : Below w.heap.size w w5 := by rw [hw5]; exact (Below.refl _ w).alloc (Nat.le_refl _) _
  have hz5 : w5.heap.size = w.heap.size + 1 := by rw [hw5]; simp
  have H5 := hide (And.intro hb5 hz5)
  clear hb5 c1 c2 c3 h hN hw5 hz5
  go_wp2_with (at_make; refine wpList_mkNils _ rfl (.tmp 8) (.tmp 8) rfl _ N rfl rfl rfl (by omega) ?_; intro w6 hRow hb6 hz6)
  go_ret
  obtain ⟨hb5, hz5⟩ := H5.out
  have e2 : w6.heap.size = w.heap.size + 2 := by omega
  rw [hz5] at hRow ⊢
  refine ⟨rfl, ?_, ?_, ?_⟩
  · have := blk_alloc_new w6 (.cells (rdA v 0 (w.heap.size + 1) N 0 0) 216)
    rw [e2] at this; exact this
  · exact hRow.of_block (blk_alloc_lt _ _ _ (by omega))
  · exact (hb5.trans (hb6.mono hb5.size)).alloc (by omega) _
end Go.Proofs.YtogdeaaphdlchaaGreatDoor
/-
  Numbers and objects in memory; the stripes of a catalog, one behind the other.
-/
namespace Go.Proofs.YtogdeaaphdlchaaGreatDoor
open Go.RowKit Go.Shelf Gf

attribute [local go_sem] Oper.semAt_some
/-- numbers wherever they lie, in blocks of K -/
def Ints (K : Nat → Prop) (w : World) (v : Value) (l : List Nat) : Prop :=
  ∃ ao c, v = .slice ao l.length c ∧ l.length ≤ 1000000 ∧ (l ≠ [] → ∃ b off, ao = some ⟨b, off, none⟩ ∧ K b ∧ b < w.heap.size ∧ ∀ i (hi : i < l.length), w.cell? ⟨b, off + i, none⟩ = some (.int .i64 ((l[i] : Nat) : Int)))
/-- an object: its name, how great it is, its stripes -/
structure Ob where
  name : ByteArray
  size : Nat
  stripes : List Nat
/-- objects wherever they lie, in blocks of K -/
def Cat (K : Nat → Prop) (w : World) (v : Value) (os : List Ob) : Prop :=
  ∃ ao c, v = .slice ao os.length c ∧ os.length ≤ 1000000 ∧ (os ≠ [] → ∃ b off, ao = some ⟨b, off, none⟩ ∧ K b ∧ b < w.heap.size ∧ ∀ i (hi : i < os.length), ∃ sv,
    w.cell? ⟨b, off + i * 3, none⟩ = some (.string os[i].name) ∧ w.cell? ⟨b, off + i * 3 + 1, none⟩ = some (.int .i64 (os[i].size : Nat)) ∧ w.cell? ⟨b, off + i * 3 + 2, none⟩ = some sv ∧ Ints K w sv os[i].stripes)
/-- the blocks of K are as they were -/
def KpS (K : Nat → Prop) (w w' : World) : Prop := w.heap.size ≤ w'.heap.size ∧ ∀ k, k < w.heap.size → K k → w'.heap[k]? = w.heap[k]?
theorem KpS.refl (K : Nat → Prop) (w : World) : KpS K w w := ⟨Nat.le_refl _, fun _ _ _ => rfl⟩
theorem KpS.trans {K : Nat → Prop} {a b c : World} (h : KpS K a b) (k : KpS K b c) : KpS K a c := ⟨Nat.le_trans h.1 k.1, fun i h1 h2 => (k.2 i (Nat.lt_of_lt_of_le h1 h.1) h2).trans (h.2 i h1 h2)⟩
theorem KpS.of_below {K : Nat → Prop} {w w' : World} (h : Below w.heap.size w w') : KpS K w w' := ⟨h.size, fun k hk _ => h.block k hk⟩
theorem Ints.keep {K : Nat → Prop} {w w' : World} {v : Value} {l : List Nat} (h : Ints K w v l) (hk : KpS K w w') : Ints K w' v l := by
  obtain ⟨ao, c, h1, h2, h3⟩ := h
  refine ⟨ao, c, h1, h2, fun hl => ?_⟩
  obtain ⟨b, off, q1, q2, q3, q4⟩ := h3 hl
  exact ⟨b, off, q1, q2, Nat.lt_of_lt_of_le q3 hk.1, fun i hi => (World.cell?_of_block (hk.2 b q3 q2)).trans (q4 i hi)⟩
theorem Cat.keep {K : Nat → Prop} {w w' : World} {v : Value} {os : List Ob} (h : Cat K w v os) (hk : KpS K w w') : Cat K w' v os := by
  obtain ⟨ao, c, h1, h2, h3⟩ := h
  refine ⟨ao, c, h1, h2, fun hl => ?_⟩
  obtain ⟨b, off, q1, q2, q3, q4⟩ := h3 hl
  refine ⟨b, off, q1, q2, Nat.lt_of_lt_of_le q3 hk.1, fun i hi => ?_⟩
  obtain ⟨sv, r1, r2, r3, r4⟩ := q4 i hi
  have hb := hk.2 b q3 q2
  exact ⟨sv, (World.cell?_of_block hb).trans r1, (World.cell?_of_block hb).trans r2, (World.cell?_of_block hb).trans r3, r4.keep hk⟩
theorem Ints.nil (K : Nat → Prop) (w : World) : Ints K w (.slice none 0 0) [] := ⟨none, 0, rfl, by decide, fun h => absurd rfl h⟩
theorem Cat.nil (K : Nat → Prop) (w : World) : Cat K w (.slice none 0 0) [] := ⟨none, 0, rfl, by decide, fun h => absurd rfl h⟩
/-- all stripes of objects -/
def allSt (os : List Ob) : List Nat := os.flatMap (·.stripes)
theorem allSt_take (os : List Ob) (k : Nat) (hk : k < os.length) : allSt (os.take (k + 1)) = allSt (os.take k) ++ os[k].stripes := by
  have e : os.take (k + 1) = os.take k ++ [os[k]] := by rw [List.take_add_one, List.getElem?_eq_getElem hk]; rfl
  rw [e]
  unfold allSt
  rw [List.flatMap_append]
  simp
/-- a stripe's number, as it is handed on -/
def encN (x : Nat) : Array Value := #[.int .i64 (x : Int)]
theorem pre_take {os : List Ob} {k : Nat} (m : Nat) (hk : k < os.length) : allSt (os.take k) ++ (os[k].stripes).take m <+: allSt os := by
  have h1 : allSt os = allSt (os.take k) ++ (os[k].stripes ++ allSt (os.drop (k + 1))) := by
    have e : allSt (os.take k ++ os[k] :: os.drop (k + 1)) = allSt (os.take k) ++ (os[k].stripes ++ allSt (os.drop (k + 1))) := by unfold allSt; rw [List.flatMap_append, List.flatMap_cons]
    rwa [← List.drop_eq_getElem_cons hk, List.take_append_drop] at e
  rw [h1]
  refine (List.prefix_append_right_inj _).2 ?_
  exact (List.take_prefix m _).trans (List.prefix_append _ _)
theorem Tryz.infoObject : (Tryz.prog.info? 84).map (fun i => (i.zero, i.size)) = some (some (.agg #[.string ByteArray.empty, .int .i64 0, .slice none 0 0]), 3) := by kernel_rfl
set_option maxRecDepth 100000 in
set_option maxHeartbeats 2000000 in
theorem catStripes1_in (K : Nat → Prop) (n l b1 : Nat) (v : Value) (os : List Ob) (J Jx : List Nat → World → Prop) (hJg : ∀ pre A B, J pre A → Below A.heap.size A B → J pre B)
    (N : Nat) (hY : ∀ pre x W, J pre W → pre.length < N → YieldAt Fence.wide (n - 1) Tryz.prog l (encN x) W fun e W' => (e = .returned (.bool true) ∧ J (pre ++ [x]) W' ∧ KpS K W W') ∨ (e = .returned (.bool false) ∧ Jx (pre ++ [x]) W'))
    (pre0 : List Nat) (hN0 : pre0.length + (allSt os).length ≤ N) (W : World) (h1 : W.cell? ⟨b1, 0, none⟩ = some v) (hC : Cat K W v os) (h0 : J pre0 W) :
    CallsIn Fence.wide n Tryz.prog 116 #[.func (.yield l) #[] #[], .pointer (some ⟨b1, 0, none⟩)] W fun e W' => (∃ v, e = .returned v) ∧
      ((J (pre0 ++ allSt os) W') ∨ (∃ pre, pre <+: allSt os ∧ Jx (pre0 ++ pre) W')) := by
  obtain ⟨ao, c, rfl, hlen, hcat⟩ := id hC
  refine callsIn_of_wp Tryz.func116 rfl trivial ?_ rfl
  simp only [Tryz.ntmps116, List.size_toArray, List.length_cons, List.length_nil, Nat.reduceAdd, Nat.reduceSub, Array.replicate_succ, Array.replicate_zero, List.push_toArray, List.append_toArray, List.nil_append, List.cons_append]
  have HC := hide (And.intro hC h0)
  clear hC h0 hcat
  gi_wp2
  gi_loopw [9] (fun p wr => ∃ k : Nat, p = .int .i64 (k : Nat) ∧ k ≤ os.length ∧ J (pre0 ++ allSt (os.take k)) wr ∧ Cat K wr (.slice ao os.length c) os)
    (fun p _ => os.length - (intOf p).toNat)
  case atStart =>
    exact ⟨0, rfl, Nat.zero_le _, by simpa [allSt] using HC.out.2, HC.out.1⟩
  case round =>
    obtain ⟨k, rfl, hk, hJ, hCt⟩ := hrel
    by_cases hlt : k < os.length
    · obtain ⟨ao', c', e1, _, hcat⟩ := id hCt
      obtain ⟨b, off, e2, hKb, hbl, hat⟩ := hcat (fun e => by rw [e] at hlt; simp at hlt)
      simp only [Value.slice.injEq] at e1
      obtain ⟨rfl, _, rfl⟩ := e1
      subst e2
      obtain ⟨sv, r1, r2, r3, r4⟩ := hat k hlt
      obtain ⟨so, sc, rfl, hsl, hsc⟩ := id r4
      obtain ⟨st, hst⟩ : ∃ st, os[k].stripes = st := ⟨_, rfl⟩
      obtain ⟨NN, hN⟩ : ∃ NN, os.length = NN := ⟨_, rfl⟩
      obtain ⟨nm, hnm⟩ : ∃ nm, os[k].name = nm := ⟨_, rfl⟩
      obtain ⟨sz, hsz⟩ : ∃ sz, ((os[k].size : Nat) : Int) = sz := ⟨_, rfl⟩
      rw [hst] at r3 r4 hsl hsc
      rw [hnm] at r1
      rw [hsz] at r2
      have hlt' : (k : Int) < (NN : Int) := by omega
      have H := hide (And.intro hJ (And.intro hCt (And.intro r4 (And.intro hst hN))))
      clear hJ hCt hcat hat r4 hsc hst hN hnm hsz
      gi_wp2
      obtain ⟨wx, hwx⟩ : ∃ wx, wr.alloc (.cells #[.string nm, .int .i64 sz, .slice so st.length sc] 84) = wx := ⟨_, rfl⟩
      have hbx : Below wr.heap.size wr wx := by rw [← hwx]; exact (Below.refl _ wr).alloc (Nat.le_refl _) _
      rw [hwx]
      clear hwx
      have hJx := hJg _ _ _ H.out.1 hbx
      have hCx := H.out.2.1.keep (KpS.of_below hbx)
      have hIx := H.out.2.2.1.keep (KpS.of_below hbx)
      gi_loopw [16] (fun p wy => ∃ m : Nat, p = .int .i64 (m : Nat) ∧ m ≤ st.length ∧ J (pre0 ++ (allSt (os.take k) ++ st.take m)) wy ∧ Cat K wy (.slice (some ⟨b, off, none⟩) os.length c) os ∧ Ints K wy (.slice so st.length sc) st)
        (fun p _ => st.length - (intOf p).toNat)
      case atStart =>
        exact ⟨0, rfl, Nat.zero_le _, by simpa using hJx, hCx, hIx⟩
      case round =>
        clear hJx hCx hIx hbx
        obtain ⟨m, rfl, hm, hJm, hCm, hIm⟩ := hrel
        by_cases hml : m < st.length
        · obtain ⟨so', sc', e1, _, hsc⟩ := id hIm
          obtain ⟨b2, off2, e2, hK2, hbl2, hat2⟩ := hsc (fun e => by rw [e] at hml; simp at hml)
          simp only [Value.slice.injEq] at e1
          obtain ⟨rfl, _, rfl⟩ := e1
          subst e2
          have g1 := hat2 m hml
          obtain ⟨y, hy⟩ : ∃ y, st[m] = y := ⟨_, rfl⟩
          rw [hy] at g1
          have hpl : (pre0 ++ (allSt (os.take k) ++ st.take m)).length < N := by
            have h1 := (pre_take (os := os) (m + 1) hlt).length_le
            rw [H.out.2.2.2.1, List.length_append, List.length_take] at h1
            rw [List.length_append, List.length_append, List.length_take]
            omega
          obtain ⟨fn, tmps, assign, body, hyy, hR⟩ := hY _ y _ hJm hpl
          clear hpl
          unfold encN at hyy
          have HM := hide (And.intro hJm (And.intro hCm (And.intro hIm (And.intro hR hy))))
          clear hJm hCm hIm hR hsc hat2 hy
          gi_wp2
          refine ⟨fun h => (by cases h), HM.out.2.2.2.1.mono ?_⟩
          have hpre : pre0 ++ (allSt (os.take k) ++ st.take m) ++ [y] = pre0 ++ (allSt (os.take k) ++ st.take (m + 1)) := by
            have e : st.take (m + 1) = st.take m ++ [y] := by rw [List.take_add_one, List.getElem?_eq_getElem hml, HM.out.2.2.2.2]; rfl
            rw [e]; simp
          rintro e W3 (⟨rfl, hJ3, hK3⟩ | ⟨rfl, hJx3⟩)
          · rw [hpre] at hJ3
            have H3 := hide (And.intro hJ3 (And.intro (HM.out.2.1.keep hK3) (HM.out.2.2.1.keep hK3)))
            clear hJ3 hK3 hpre
            gi_wp2
            go_roundw
            case rel => exact ⟨m + 1, by go_num, by omega, H3.out.1, H3.out.2.1, H3.out.2.2⟩
            case measure => simp only [intOf]; omega
          · rw [hpre] at hJx3
            have H3 := hide hJx3
            clear hJx3 hpre
            gi_wp2
            refine bodyPost_ret (results_none rfl _ _ _) rfl ?_
            have hp := pre_take (os := os) (m + 1) hlt
            rw [H.out.2.2.2.1] at hp
            exact ⟨⟨_, rfl⟩, .inr ⟨_, hp, H3.out⟩⟩
        · have hmm : m = st.length := by omega
          subst hmm
          rw [List.take_length] at hJm
          have he := allSt_take os k hlt
          rw [H.out.2.2.2.1] at he
          rw [← he] at hJm
          have HM := hide (And.intro hJm hCm)
          clear hJm hCm hIm he
          gi_wp2
          go_roundw
          case rel => exact ⟨k + 1, by go_num, by omega, HM.out.1, HM.out.2⟩
          case measure => simp only [intOf]; omega
    · have hkk : k = os.length := by omega
      subst hkk
      rw [List.take_length] at hJ
      have HJ := hide hJ
      clear hJ hCt
      gi_wp2
      go_end0
      exact ⟨⟨_, rfl⟩, .inl HJ.out⟩
end Go.Proofs.YtogdeaaphdlchaaGreatDoor
/-
  The stripes that an archive uses: those of the catalog, then those of the objects.
-/
namespace Go.Proofs.YtogdeaaphdlchaaGreatDoor
open Go.RowKit Go.Shelf Go.Deep Gf

attribute [local go_sem] Oper.semAt_some
theorem yield_any {m m' : Nat} {P : Program} {l : Nat} {args : Array Value} {w : World} {R : Ending → World → Prop} (h : YieldAt Fence.wide m P l args w R) : YieldAt Fence.wide m' P l args w R := by
  obtain ⟨fn, tmps, assign, body, h1, h2⟩ := h
  exact ⟨fn, tmps, assign, body, h1, round_any h2⟩
set_option maxHeartbeats 1000000 in
/-- c.Stripes(): the catalog lies in a block of its own -/
theorem catStripes_any (ao : Option Addr) (m c : Nat) (w : World) :
    Calls Tryz.prog 103 #[.slice ao m c] w fun e w' => e = .returned (.func (.func 116) #[] #[.pointer (some ⟨w.heap.size, 0, none⟩)]) ∧ w' = w.alloc (.cells #[.slice ao m c] 66) := by
  have hmf : ∀ (fn : Fn) (first cap : Array Value) (w : World), (Instr.makeFunc fn first cap).run Tryz.prog w = .ok (.func fn first cap) w := fun _ _ _ _ => rfl
  go_enter Tryz.func103, Tryz.ntmps103
  go_wp2
  go_ret
  exact ⟨rfl, rfl⟩
set_option maxHeartbeats 1000000 in
/-- a.stripes(): the archive's pointer lies in a block of its own -/
theorem arcStripes_any (ar : Nat) (w : World) :
    Calls Tryz.prog 84 #[.pointer (some ⟨ar, 0, none⟩)] w fun e w' => e = .returned (.func (.func 102) #[] #[.pointer (some ⟨w.heap.size, 0, none⟩)]) ∧ w' = w.alloc (.cells #[.pointer (some ⟨ar, 0, none⟩)] 51) := by
  have hmf : ∀ (fn : Fn) (first cap : Array Value) (w : World), (Instr.makeFunc fn first cap).run Tryz.prog w = .ok (.func fn first cap) w := fun _ _ _ _ => rfl
  go_enter Tryz.func84, Tryz.ntmps84
  go_wp2
  go_ret
  exact ⟨rfl, rfl⟩
set_option maxRecDepth 100000 in
set_option maxHeartbeats 2000000 in
theorem arcStripes1_in (K : Nat → Prop) (n l b1 ar : Nat) (v D L G t f nn : Nat) (pg ob : Value) (off : Bool) (P : List Nat) (os : List Ob) (hKb : K b1) (hKa : K ar) (J Jx : List Nat → World → Prop) (hJg : ∀ pre A B, J pre A → Below A.heap.size A B → J pre B)
    (hY : ∀ pre x W, J pre W → pre.length < (P ++ allSt os).length → YieldAt Fence.wide (n - 1) Tryz.prog l (encN x) W fun e W' => (e = .returned (.bool true) ∧ J (pre ++ [x]) W' ∧ KpS K W W') ∨ (e = .returned (.bool false) ∧ Jx (pre ++ [x]) W'))
    (W : World) (h1 : Boxed W b1 51 (.pointer (some ⟨ar, 0, none⟩))) (hA : ArcAt W ar v D L G t f nn pg ob off) (hP : Ints K W pg P) (hC : Cat K W ob os) (h0 : J [] W) :
    CallsIn Fence.wide n Tryz.prog 102 #[.func (.yield l) #[] #[], .pointer (some ⟨b1, 0, none⟩)] W fun e W' => (∃ v, e = .returned v) ∧
      ((∃ ys, ys = P ++ allSt os ∧ J ys W') ∨ (∃ pre, pre <+: P ++ allSt os ∧ Jx pre W')) := by
  obtain ⟨ao, c, rfl, hlen, hcat⟩ := id hP
  obtain ⟨c0, _, _, c7, c8⟩ := hA.cells
  have cb := h1.cell
  refine callsIn_of_wp Tryz.func102 rfl trivial ?_ rfl
  simp only [Tryz.ntmps102, List.size_toArray, List.length_cons, List.length_nil, Nat.reduceAdd, Nat.reduceSub, Array.replicate_succ, Array.replicate_zero, List.push_toArray, List.append_toArray, List.nil_append, List.cons_append]
  have HC := hide (And.intro h1 (And.intro hA (And.intro hP (And.intro hC h0))))
  clear h1 hA hP hC h0 hcat
  gi_wp2
  gi_loopw [10] (fun p wr => ∃ k : Nat, p = .int .i64 (k : Nat) ∧ k ≤ P.length ∧ J (P.take k) wr ∧ KpS K W wr)
    (fun p _ => P.length - (intOf p).toNat)
  case atStart =>
    exact ⟨0, rfl, Nat.zero_le _, HC.out.2.2.2.2, KpS.refl _ _⟩
  case round =>
    clear c0 c7 c8 cb
    obtain ⟨k, rfl, hk, hJ, hKp⟩ := hrel
    by_cases hlt : k < P.length
    · obtain ⟨ao', c', e1, _, hcat⟩ := HC.out.2.2.1.keep hKp
      obtain ⟨b, bo, e2, hKb', hbl, hat⟩ := hcat (fun e => by rw [e] at hlt; simp at hlt)
      simp only [Value.slice.injEq] at e1
      obtain ⟨rfl, _, rfl⟩ := e1
      subst e2
      have g1 := hat k hlt
      obtain ⟨y, hy⟩ : ∃ y, P[k] = y := ⟨_, rfl⟩
      rw [hy] at g1
      obtain ⟨fn, tmps, assign, body, hyy, hR⟩ := hY _ y _ hJ (by rw [List.length_take, List.length_append]; omega)
      unfold encN at hyy
      have HM := hide (And.intro hJ (And.intro hKp (And.intro hR hy)))
      clear hJ hKp hR hcat hat hy
      gi_wp2
      refine ⟨fun h => (by cases h), HM.out.2.2.1.mono ?_⟩
      have hpre : P.take k ++ [y] = P.take (k + 1) := by rw [List.take_add_one, List.getElem?_eq_getElem hlt, HM.out.2.2.2]; rfl
      rintro e W3 (⟨rfl, hJ3, hK3⟩ | ⟨rfl, hJx3⟩)
      · rw [hpre] at hJ3
        have H3 := hide (And.intro hJ3 (HM.out.2.1.trans hK3))
        clear hJ3 hK3 hpre
        gi_wp2
        go_roundw
        case rel => exact ⟨k + 1, by go_num, by omega, H3.out.1, H3.out.2⟩
        case measure => simp only [intOf]; omega
      · rw [hpre] at hJx3
        have H3 := hide hJx3
        clear hJx3 hpre
        gi_wp2
        refine bodyPost_ret (results_none rfl _ _ _) rfl ?_
        exact ⟨⟨_, rfl⟩, .inr ⟨_, (List.take_prefix (k + 1) P).trans (List.prefix_append _ _), H3.out⟩⟩
    · have hkk : k = P.length := by omega
      subst hkk
      rw [List.take_length] at hJ
      obtain ⟨h1, hA, hP, hC, h0⟩ := HC.out
      have h1' : Boxed wr b1 51 (.pointer (some ⟨ar, 0, none⟩)) := (hKp.2 _ h1.lt hKb).trans h1
      have hA' := hA.keep (hKp.2 _ hA.lt hKa)
      have hC' := hC.keep hKp
      obtain ⟨_, _, _, _, c8⟩ := hA'.cells
      have cb := h1'.cell
      obtain ⟨oo, oc, rfl, hol, _⟩ := id hC'
      have HJ := hide (And.intro hJ (And.intro hKp hC'))
      clear hJ hKp h1 hA hP hC h0 h1' hA' hC'
      gi_wp2
      refine at_wide (catStripes_any oo os.length oc wr) ?_
      rintro e w2 ⟨rfl, rfl⟩
      have hb2 : Below wr.heap.size wr (wr.alloc (.cells #[.slice oo os.length oc] 66)) := (Below.refl _ wr).alloc (Nat.le_refl _) _
      have cc : (wr.alloc (.cells #[.slice oo os.length oc] 66)).cell? ⟨wr.heap.size, 0, none⟩ = some (.slice oo os.length oc) := (Boxed.new wr _ _).cell
      obtain ⟨w2, hw2⟩ : ∃ w2, wr.alloc (.cells #[.slice oo os.length oc] 66) = w2 := ⟨_, rfl⟩
      rw [hw2] at hb2 cc
      have hJ2 := hJg _ _ _ HJ.out.1 hb2
      have hC2 := HJ.out.2.2.keep (KpS.of_below hb2)
      have hcall := catStripes1_in K (n - 1) l wr.heap.size (.slice oo os.length oc) os J Jx hJg (P ++ allSt os).length (fun pre x W1 hj hp => yield_any (hY pre x W1 hj hp)) P (by rw [List.length_append]; exact Nat.le_refl _) w2 cc hC2 hJ2
      have H2 := hide hcall
      clear hb2 cc hJ2 hC2 hcall
      rw [hw2]
      clear hw2
      gi_wp2
      refine ⟨trivial, fun h => (by cases h), H2.out.mono ?_⟩
      rintro e W3 ⟨⟨x, rfl⟩, hres⟩
      have H3 := hide hres
      clear hres
      gi_wp2
      go_end0
      refine ⟨⟨_, rfl⟩, ?_⟩
      rcases H3.out with h | ⟨pre, h1, h2⟩
      · exact .inl ⟨_, rfl, h⟩
      · exact .inr ⟨_, (List.prefix_append_right_inj _).2 h1, h2⟩
/-- the contract -/
theorem arcStripes_stops (K : Nat → Prop) (n b1 ar v D L G t f nn : Nat) (pg ob : Value) (off : Bool) (P : List Nat) (os : List Ob) (hKb : K b1) (hKa : K ar) (w : World) (h1 : Boxed w b1 51 (.pointer (some ⟨ar, 0, none⟩))) (hA : ArcAt w ar v D L G t f nn pg ob off) (hP : Ints K w pg P) (hC : Cat K w ob os) :
    SeqStopsK Fence.wide n Tryz.prog 102 #[.pointer (some ⟨b1, 0, none⟩)] encN (KpS K) (fun ys => ys = P ++ allSt os) (fun pre => pre <+: P ++ allSt os) (P ++ allSt os).length w := fun l J Jx W hW hJ _ hY h0 =>
  arcStripes1_in K n l b1 ar v D L G t f nn pg ob off P os hKb hKa J Jx (fun pre A B h hb => hJ pre A B none h ⟨hb.os, hb.tape, hb.output, hb.size, fun k hk _ => hb.block k hk⟩ (fun r e => by cases e)) hY W
    ((hW.block _ h1.lt).trans h1) (hA.keep (hW.block _ hA.lt)) (hP.keep (KpS.of_below hW)) (hC.keep (KpS.of_below hW)) h0
end Go.Proofs.YtogdeaaphdlchaaGreatDoor
/-
  The array's smaller calls.
-/
namespace Go.Proofs.YtogdeaaphdlchaaGreatDoor
open Go.RowKit Go.Deep

set_option maxRecDepth 100000 in
set_option maxHeartbeats 1000000 in
theorem drives_any {w : World} {p : Nat} {A : Arr} {F : Foot} (h : ArrAt w p A F) : Calls Tryz.prog 15 #[.pointer (some ⟨p, 0, none⟩)] w fun e w' => e = .returned (.int .i64 A.n) ∧ w' = w := by
  obtain ⟨c0, c1, _, _⟩ := h.p_cells
  go_enter Tryz.func15, Tryz.ntmps15
  go_wp2
  go_ret
  exact ⟨rfl, rfl⟩
set_option maxRecDepth 100000 in
set_option maxHeartbeats 1000000 in
theorem blocks_any {w : World} {p : Nat} {A : Arr} {F : Foot} (h : ArrAt w p A F) (hn : 0 < A.n) : Calls Tryz.prog 17 #[.pointer (some ⟨p, 0, none⟩)] w fun e w' => e = .returned (.int .i64 A.nb) ∧ w' = w := by
  obtain ⟨c0, c1, _, _⟩ := h.p_cells
  obtain ⟨d0, d1, d2, d3⟩ := h.drvs 0 hn
  have e1 : ¬ (A.n : Int) = 0 := by omega
  have e2 : ¬ A.n = 0 := by omega
  have e3 : (0 : Int) < (A.n : Int) := by omega
  rw [Nat.zero_mul, Nat.zero_add] at d1
  go_enter Tryz.func17, Tryz.ntmps17
  go_wp2
  go_ret
  exact ⟨rfl, rfl⟩
end Go.Proofs.YtogdeaaphdlchaaGreatDoor
/-
  Room on the drives: pages, blocks.
-/
namespace Go.Proofs.YtogdeaaphdlchaaGreatDoor
open Go.RowKit Go.Deep

set_option maxRecDepth 100000 in
set_option maxHeartbeats 1000000 in
theorem pieces_any (n m : Nat) (hn : n ≤ 1000000000) (hm : 1 ≤ m ∧ m ≤ 1000000) (w : World) : Calls Tryz.prog 71 #[.int .i64 n, .int .i64 m] w fun e w' => e = .returned (.int .i64 (((n + m - 1) / m : Nat) : Int)) ∧ w' = w := by
  obtain ⟨m1, m2⟩ := hm
  have e1 : (((n + m - 1) / m : Nat) : Int) = ((n : Int) + m - 1) / (m : Int) := by rw [Int.natCast_ediv, show ((n + m - 1 : Nat) : Int) = (n : Int) + m - 1 by omega]
  have e2 : Int.tdiv ((n : Int) + m - 1) (m : Int) = ((n : Int) + m - 1) / (m : Int) := Int.tdiv_eq_ediv_of_nonneg (by omega)
  have hm0 : ¬ (m : Int) = 0 := by omega
  have e3 : wrap64 (((n : Int) + m - 1) / (m : Int)) = ((n : Int) + m - 1) / (m : Int) := by rw [← e1]; exact wrap64_nat (Nat.le_trans (Nat.div_le_self _ _) (by omega))
  rw [e1]
  go_enter Tryz.func71, Tryz.ntmps71
  go_wp2
  go_ret
  exact ⟨congrArg (fun x => Ending.returned (.int .i64 x)) e3, rfl⟩
/-- how many pages a catalog of so many bytes takes -/
def pgs (D m : Nat) : Nat := max 1 ((m + (D * 44 - 4) - 1) / (D * 44 - 4))
set_option maxRecDepth 100000 in
set_option maxHeartbeats 1000000 in
theorem pagesOf_any {w : World} {a v p D L G ps ho D' L' G' t f n : Nat} {pg ob : Value} {off : Bool} (ha : ArcAt w a v D' L' G' t f n pg ob off) (h : VolAt w v p D L G ps ho) (hD1 : 1 ≤ D) (hD : D ≤ 1000) (m : Nat) (hm : m ≤ 1000000000) : Calls Tryz.prog 52 #[.pointer (some ⟨a, 0, none⟩), .int .i64 m] w fun e w' => e = .returned (.int .i64 (pgs D m : Nat)) ∧ w' = w := by
  have hpc := pieces_any m (D * 44 - 4) hm ⟨by omega, by omega⟩ w
  obtain ⟨q, hq⟩ : ∃ q, (m + (D * 44 - 4) - 1) / (D * 44 - 4) = q := ⟨_, rfl⟩
  rw [hq] at hpc
  have hps : pgs D m = max 1 q := by unfold pgs; rw [hq]
  rw [hps]
  have hmx : ∀ ats ty w, (Builtin.max_ ats ty #[.int .i64 1, .int .i64 (q : Nat)]).run Tryz.prog w = .ok (.int .i64 ((max 1 q : Nat) : Int)) w := fun ats ty w => by
    rw [run_max_int]
    by_cases h1 : (q : Int) > 1
    · rw [if_pos h1, Nat.max_eq_right (by omega)]
    · rw [if_neg h1, Nat.max_eq_left (by omega)]; rfl
  have hpz := pageSize_any ha h hD1 hD
  have H := hide (And.intro hpc hpz)
  clear hpc hpz hps hq
  go_enter Tryz.func52, Tryz.ntmps52
  go_wp2_with fail
  refine H.out.2.mono ?_
  rintro e w' ⟨rfl, rfl⟩
  generalize ((D * 44 - 4 : Nat) : Int) = pz at *
  go_wp2_with fail
  refine H.out.1.mono ?_
  rintro e w' ⟨rfl, rfl⟩
  go_wp2
  go_ret
  exact ⟨rfl, rfl⟩
set_option maxRecDepth 100000 in
set_option maxHeartbeats 1000000 in
theorem volBlocks_any {w : World} {v p D L G ps ho : Nat} {A : Arr} {F : Foot} (hV : VolAt w v p D L G ps ho) (h : ArrAt w p A F) (hf : A.fit) (hn : 0 < A.n) : Calls Tryz.prog 78 #[.pointer (some ⟨v, 0, none⟩)] w fun e w' => e = .returned (.int .i64 A.nb) ∧ w' = w := by
  obtain ⟨c0, _⟩ := hV.cells
  have hb := hf.nb
  have hcall := blocks_any h hn
  obtain ⟨nb, hnb⟩ : ∃ nb, A.nb = nb := ⟨_, rfl⟩
  rw [hnb] at hcall hb ⊢
  clear h hf hn hnb
  have hmin : ¬ (2147483647 : Int) < (nb : Int) := by omega
  go_enter Tryz.func78, Tryz.ntmps78
  go_wp2_with fail
  refine hcall.mono ?_
  rintro e w' ⟨rfl, rfl⟩
  go_wp2
  go_ret
  exact ⟨rfl, rfl⟩
end Go.Proofs.YtogdeaaphdlchaaGreatDoor
/-
  taken: of each block, whether something stands there.
-/
namespace Go.Proofs.YtogdeaaphdlchaaGreatDoor
open Go.RowKit Go.Shelf Go.Deep Gf

attribute [local go_sem] Oper.semAt_some
/-- which blocks are marked, and whether all was right, when these stripes were gone through -/
def tkStep (nb : Nat) (s : (Nat → Bool) × Bool) (x : Nat) : (Nat → Bool) × Bool := if x < 2 ∨ nb ≤ x ∨ s.1 x = true then (s.1, false) else (fun j => if j = x then true else s.1 j, s.2)
def tk (nb : Nat) (l : List Nat) : (Nat → Bool) × Bool := l.foldl (tkStep nb) (fun _ => false, true)
theorem tk_snoc (nb : Nat) (l : List Nat) (x : Nat) : tk nb (l ++ [x]) = tkStep nb (tk nb l) x := by simp [tk]
theorem Tryz.infoBoolT : (Tryz.prog.info? 4).map (fun i => (i.zero, i.size, i.bytes)) = some (some (.bool false), 1, 1) := by kernel_rfl
theorem wpListIn_mkBools (w : World) {F : Fence} {m : Nat} {ops : Array Oper} {rest : List Oper} {o : Oper} {a : Act} {Q : Exit → Act → World → Prop}
    (hg : o.guard = none) (l c : Operand) (hop : o.op = Op.makeSlice 48 l c) (C : Int) (n : Nat) (hl : a.eval l = .int .i64 C) (hc : a.eval c = .int .i64 C) (hC : C = (n : Int)) (hn : n ≤ 1000000000)
    (hK : ∀ w', w'.rowIs w.heap.size 4 n (fun _ => .bool false) → Below w.heap.size w w' → w'.heap.size = w.heap.size + 1 → wpListIn F m Tryz.prog ops Q rest (a.put o.dst (.slice (some ⟨w.heap.size, 0, none⟩) n n)) w') :
    wpListIn F m Tryz.prog ops Q (o :: rest) a w := by
  refine wpListIn_plain hg fun K hK' => ?_
  have hrun := run_make_row' (P := Tryz.prog) 48 4 (.bool false) 1 Tryz.underlying48 Tryz.infoBoolT rfl .i64 .i64 n (by omega) (by omega) w
  subst hC
  unfold Oper.wpIn
  refine ⟨by simp [Oper.about, hop], ?_⟩
  rw [Oper.semAt_plain F _ _ (by rw [hop]; intro c h; cases h)]
  simp [execOp, hop, hl, hc, hrun, Result.andThen]
  exact hK' _ _ (hK _ (World.rowIs_made w _ n _) ((Below.refl _ _).alloc (Nat.le_refl _) _) (nblk_alloc _ _))
/-- between two stripes -/
structure TkI (w : World) (g nb B : Nat) (pre : List Nat) (X : World) : Prop where
  row : X.rowIs g 4 nb (fun j => .bool ((tk nb pre).1 j))
  box : Boxed X (g + 1) 48 (.slice (some ⟨g, 0, none⟩) nb nb)
  ok : Boxed X (g + 1 + 1) 4 (.bool (tk nb pre).2)
  below : Below w.heap.size w X
  size : B ≤ X.heap.size
theorem TkI.own {w : World} {g nb B : Nat} (hB : g + 3 ≤ B) (hw : w.heap.size ≤ B) : OwnFrom B (TkI w g nb B) := by
  rintro pre X Y row ⟨h1, h2, h3, h4, h5⟩ hg hr
  have hk : ∀ k, k < B → Y.heap[k]? = X.heap[k]? := fun k hk => hg.block k (by omega) (fun e => by have := (hr k e.symm).1; omega)
  exact ⟨h1.of_block (hk _ (by omega)), (hk _ (by omega)).trans h2, (hk _ (by omega)).trans h3, h4.grown hg h4.size (fun k e => by have := (hr k e).1; omega), Nat.le_trans h5 hg.size⟩
/-- a function's two results, which lie in slots, behind a range over a function -/
theorem end_tmp2 {n : Nat} {fn : Func} {Z : World} {D' t u : Nat} {x y : Value} {a : Act} {R : Ending → World → Prop} (hr : fn.results = #[.tmp t, .tmp u]) (hd : a.defers = [{ target := .collected D', args := #[] }]) (hx : a.tmps.getD t undef = x) (hy : a.tmps.getD u undef = y)
    (hK : Z.heap[D']? = some (.deferred (some []))) (hR : R (.returned (.tuple #[x, y])) (Z.putObj D' (.deferred none))) : bodyPostM Fence.wide n Tryz.prog fn R .ret a Z := by
  obtain ⟨tm, df⟩ := a
  simp only at hd hx hy
  subst hd
  refine ⟨by simp, .inl ⟨_, _, rfl, run_takeDeferred hK, ?_⟩⟩
  refine ⟨.tuple #[x, y], ?_, hR⟩
  have hx' : tm[t]?.getD undef = x := by simpa using hx
  have hy' : tm[u]?.getD undef = y := by simpa using hy
  simp [results, hr, hx', hy']
set_option maxRecDepth 100000 in
set_option maxHeartbeats 4000000 in
theorem taken_any {w : World} {ar v p D L G ps ho D' L' G' t f nn : Nat} {pg ob : Value} {off : Bool} {A : Arr} {F : Foot} (hA : ArcAt w ar v D' L' G' t f nn pg ob off) (hV : VolAt w v p D L G ps ho) (h : ArrAt w p A F) (hf : A.fit) (hn : 0 < A.n) (P : List Nat) (os : List Ob) (hP : Ints (fun k => k < w.heap.size) w pg P) (hC : Cat (fun k => k < w.heap.size) w ob os) :
    Calls Tryz.prog 60 #[.pointer (some ⟨ar, 0, none⟩)] w fun e w' => ∃ g, e = .returned (.tuple #[.slice (some ⟨g, 0, none⟩) A.nb A.nb, .bool (tk A.nb (P ++ allSt os)).2]) ∧ w.heap.size ≤ g ∧ w'.rowIs g 4 A.nb (fun j => .bool ((tk A.nb (P ++ allSt os)).1 j)) ∧ Below w.heap.size w w' := by
  obtain ⟨n, HN⟩ : ∃ n : Nat, Hid (9 ≤ n) := ⟨9, Nat.le_refl _⟩
  obtain ⟨c0, _⟩ := hA.cells
  have hbl := volBlocks_any hV h hf hn
  have hnb := hf.nb
  obtain ⟨nb, hnbE⟩ : ∃ nb, A.nb = nb := ⟨_, rfl⟩
  rw [hnbE] at hbl hnb ⊢
  clear hnbE
  have H0 := hide (And.intro hA (And.intro hP (And.intro hC hbl)))
  clear hA hP hC hbl
  refine (callsIn_wide (n := n)).1 ?_
  refine callsIn_of_wp_marks Tryz.func60 rfl trivial ?_ rfl
  simp only [Tryz.ntmps60, List.size_toArray, List.length_cons, List.length_nil, Nat.reduceAdd, Nat.reduceSub, Array.replicate_succ, Array.replicate_zero, List.push_toArray, List.append_toArray, List.nil_append, List.cons_append]
  gi_wp2
  refine at_wide H0.out.2.2.2 ?_
  rintro e w1 ⟨rfl, rfl⟩
  gi_wp2_with (gi_at_make; refine wpListIn_mkBools _ rfl (.tmp 11) (.tmp 11) rfl _ nb (by rfl) (by rfl) rfl (by omega) ?_; intro w2 hRow hb2 hz2)
  obtain ⟨w4, hw4⟩ : ∃ w4, (w2.alloc (.cells #[.slice (some ⟨w1.heap.size, 0, none⟩) nb nb] 48)).alloc (.cells #[.bool true] 4) = w4 := ⟨_, rfl⟩
  have hz4 : w4.heap.size = w1.heap.size + 3 := by rw [← hw4]; simp [hz2]
  have hb4 : Below w1.heap.size w1 w4 := by rw [← hw4]; exact (hb2.alloc (by omega) _).alloc (by simp; omega) _
  have hR4 : w4.rowIs w1.heap.size 4 nb (fun _ => .bool false) := by rw [← hw4]; exact (hRow.alloc _).alloc _
  have hB4 : Boxed w4 (w1.heap.size + 1) 48 (.slice (some ⟨w1.heap.size, 0, none⟩) nb nb) := by
    rw [← hw4]
    have := Boxed.new w2 48 (.slice (some ⟨w1.heap.size, 0, none⟩) nb nb)
    rw [hz2] at this
    exact this.alloc _
  have hO4 : Boxed w4 (w1.heap.size + 1 + 1) 4 (.bool true) := by
    rw [← hw4]
    have := Boxed.new (w2.alloc (.cells #[.slice (some ⟨w1.heap.size, 0, none⟩) nb nb] 48)) 4 (.bool true)
    rw [World.size_alloc, hz2] at this
    exact this
  rw [hw4]
  clear hw4 hRow hb2 hz2 c0 hV h
  refine at_wide (arcStripes_any ar w4) ?_
  rintro e w' ⟨rfl, rfl⟩
  have h5 : Boxed (w4.alloc (.cells #[.pointer (some ⟨ar, 0, none⟩)] 51)) w4.heap.size 51 (.pointer (some ⟨ar, 0, none⟩)) := Boxed.new w4 _ _
  have hz5 : (w4.alloc (.cells #[.pointer (some ⟨ar, 0, none⟩)] 51)).heap.size = w4.heap.size + 1 := by simp
  have hi5 : TkI w1 w1.heap.size nb (w4.heap.size + 1) [] (w4.alloc (.cells #[.pointer (some ⟨ar, 0, none⟩)] 51)) := ⟨hR4.alloc _, hB4.alloc _, hO4.alloc _, hb4.alloc (by omega) _, by omega⟩
  obtain ⟨w5, hw5⟩ : ∃ w5, w4.alloc (.cells #[.pointer (some ⟨ar, 0, none⟩)] 51) = w5 := ⟨_, rfl⟩
  have HI5 := hide (And.intro h5 (And.intro hi5 (And.intro hz4 hz5)))
  clear h5 hi5 hz4 hz5 hR4 hB4 hO4 hb4
  gi_wp2
  rw [hw5] at HI5
  clear hw5
  obtain ⟨hs1, hs2, hs3, hs4⟩ : w4.heap.size ≤ w1.heap.size + 3 ∧ w1.heap.size + 3 ≤ w4.heap.size ∧ w5.heap.size ≤ w4.heap.size + 1 ∧ w4.heap.size + 1 ≤ w5.heap.size := by have := HI5.out.2.2; omega
  have hi5 : TkI w1 w1.heap.size nb w5.heap.size [] w5 := by have := HI5.out.2.1; exact ⟨this.row, this.box, this.ok, this.below, Nat.le_refl _⟩
  have hKK : ∀ {v : Value} {l : List Nat}, Ints (fun k => k < w1.heap.size) w1 v l → Ints (fun k => k < w1.heap.size ∨ k = w4.heap.size) w1 v l := fun ⟨ao, c, q1, q2, q3⟩ => ⟨ao, c, q1, q2, fun hl => by obtain ⟨b, off, r1, r2, r3⟩ := q3 hl; exact ⟨b, off, r1, .inl r2, r3⟩⟩
  have hPK := hKK H0.out.2.1
  have hCK : Cat (fun k => k < w1.heap.size ∨ k = w4.heap.size) w1 ob os := by
    obtain ⟨ao, c, q1, q2, q3⟩ := H0.out.2.2.1
    refine ⟨ao, c, q1, q2, fun hl => ?_⟩
    obtain ⟨b, off, r1, r2, r3, r4⟩ := q3 hl
    refine ⟨b, off, r1, .inl r2, r3, fun i hi => ?_⟩
    obtain ⟨sv, s1, s2, s3, s4⟩ := r4 i hi
    exact ⟨sv, s1, s2, s3, hKK s4⟩
  have hbel := hi5.below
  have HI := hide hi5
  clear hi5 hKK
  refine wpIn_rangeFunc_ownG rfl (by have := HN.out; omega) (gf := 102) (lb := #[.pointer (some ⟨w4.heap.size, 0, none⟩)]) rfl trivial (enters_of Tryz.func102 (by kernel_rfl) rfl)
    (arcStripes_stops (fun k => k < w1.heap.size ∨ k = w4.heap.size) (n - 1) w4.heap.size ar v D' L' G' t f nn pg ob off P os (.inr rfl) (.inl H0.out.1.lt) w5 HI5.out.1 (H0.out.1.keep (hbel.block _ H0.out.1.lt)) (hPK.keep (KpS.of_below hbel)) (hCK.keep (KpS.of_below hbel)))
    (fun h k => h.trans k) (fun W l o o' hl _ _ _ => ⟨by simp [World.putObj], fun k _ hk => World.putObj_heap_other (by rcases hk with hk | hk <;> omega)⟩) (Below.refl _ _) (fun _ => rfl)
    (TkI w1 w1.heap.size nb w5.heap.size) (fun _ _ _ => False) (TkI.own (by omega) (by omega)) (fun _ _ _ _ _ h _ _ => h.elim) HI.out
    (fun x => { tmps := #[.pointer (some ⟨ar, 0, none⟩), undef, .slice none 0 0, .bool false, .pointer (some ⟨w1.heap.size + 1, 0, none⟩), .pointer (some ⟨w1.heap.size + 1 + 1, 0, none⟩), .int .i64 (x : Nat), .pointer (some ⟨ar, 0, none⟩), .pointer (some ⟨ar, 0, none⟩), .pointer (some ⟨ar, 0, none⟩), .pointer (some ⟨v, 0, none⟩), .int .i64 (nb : Nat), .slice (some ⟨w1.heap.size, 0, none⟩) nb nb, .pointer (some ⟨ar, 0, none⟩), .func (.func 102) #[] #[.pointer (some ⟨w4.heap.size, 0, none⟩)], .int .i64 (x : Nat), undef, undef, undef, undef, undef, undef, undef, undef, undef, undef, undef, undef, undef, undef, undef, undef, undef, undef, undef], defers := [] }) ?assign ?body ?done ?stop
  case assign =>
    intro l2 x X Kk hK
    unfold encN
    gi_wp2
    exact hK
  case body =>
    rintro l2 pre x X hi hlen
    have c1 := hi.box.cell
    have c2 := hi.ok.cell
    have f2 := hi.ok.frozen
    have HX := hide hi
    have hszB := hi.size
    -- where nothing more is marked
    have hbadw : tk nb (pre ++ [x]) = ((tk nb pre).1, false) → KeepsFrom w5.heap.size X (X.setCell ⟨w1.heap.size + 1 + 1, 0, none⟩ (.bool false)) ∧ KpS (fun k => k < w1.heap.size ∨ k = w4.heap.size) X (X.setCell ⟨w1.heap.size + 1 + 1, 0, none⟩ (.bool false)) ∧ TkI w1 w1.heap.size nb w5.heap.size (pre ++ [x]) (X.setCell ⟨w1.heap.size + 1 + 1, 0, none⟩ (.bool false)) := fun hst => by
      have hi := HX.out
      refine ⟨(KeepsOthers.setCell _ _ _).from _, ⟨by simp [World.setCell], fun k _ hk => blk_setCell_other _ _ _ _ (by show k ≠ w1.heap.size + 1 + 1; rcases hk with hk | hk <;> omega)⟩, ?_, ?_, ?_, ?_, ?_⟩
      · rw [hst]; exact hi.row.of_block (blk_setCell_other _ _ _ _ (by show w1.heap.size ≠ w1.heap.size + 1 + 1; omega))
      · exact (blk_setCell_other _ _ _ _ (by show w1.heap.size + 1 ≠ w1.heap.size + 1 + 1; omega)).trans hi.box
      · rw [hst]; exact hi.ok.set _
      · exact hi.below.setCell (p := ⟨w1.heap.size + 1 + 1, 0, none⟩) (by show w1.heap.size ≤ w1.heap.size + 1 + 1; omega) _
      · simpa [World.setCell] using hi.size
    have HB := hide hbadw
    clear hi hbadw hszB
    by_cases hx2 : x < 2
    · have e1 : (x : Int) < 2 := by omega
      have hst : tk nb (pre ++ [x]) = ((tk nb pre).1, false) := by rw [tk_snoc]; unfold tkStep; rw [if_pos (.inl hx2)]
      have HS := hide hst
      clear hst
      gi_wp2
      exact HB.out HS.out
    · have e1 : ¬ (x : Int) < 2 := by omega
      by_cases hxn : nb ≤ x
      · have e2 : (x : Int) ≥ (nb : Int) := by omega
        have hst : tk nb (pre ++ [x]) = ((tk nb pre).1, false) := by rw [tk_snoc]; unfold tkStep; rw [if_pos (.inr (.inl hxn))]
        have HS := hide hst
        clear hst
        gi_wp2
        exact HB.out HS.out
      · have e2 : ¬ (x : Int) ≥ (nb : Int) := by omega
        have hxl : x < nb := by omega
        have c3 := HX.out.row.cell (i := x) hxl
        have f3 := HX.out.row.frozen x
        cases hmk : (tk nb pre).1 x with
        | true =>
          rw [hmk] at c3
          have hst : tk nb (pre ++ [x]) = ((tk nb pre).1, false) := by rw [tk_snoc]; unfold tkStep; rw [if_pos (.inr (.inr hmk))]
          have HS := hide hst
          clear hst
          gi_wp2
          exact HB.out HS.out
        | false =>
          rw [hmk] at c3
          have hst : tk nb (pre ++ [x]) = (fun j => if j = x then true else (tk nb pre).1 j, (tk nb pre).2) := by
            rw [tk_snoc]; unfold tkStep; rw [if_neg]
            rintro (q | q | q)
            · exact hx2 q
            · exact hxn q
            · rw [hmk] at q; cases q
          have HS := hide hst
          clear hst
          gi_wp2
          have hst := HS.out
          have hi := HX.out
          refine ⟨(KeepsOthers.setCell _ _ _).from _, ⟨by simp [World.setCell], fun k _ hk => blk_setCell_other _ _ _ _ (by show k ≠ w1.heap.size; rcases hk with hk | hk <;> omega)⟩, ?_, ?_, ?_, ?_, ?_⟩
          · rw [hst]
            refine (hi.row.set x (.bool true)).congr fun j hj => ?_
            by_cases e : j = x
            · simp [e]
            · simp [e]
          · exact (blk_setCell_other _ _ _ _ (by show w1.heap.size + 1 ≠ w1.heap.size; omega)).trans hi.box
          · rw [hst]; exact (blk_setCell_other _ _ _ _ (by show w1.heap.size + 1 + 1 ≠ w1.heap.size; omega)).trans hi.ok
          · exact hi.below.setCell (p := ⟨w1.heap.size, x, none⟩) (Nat.le_refl _) _
          · simpa [World.setCell] using hi.size
  case done =>
    rintro D1 xs X hD1 hxs hi hK
    rw [hxs] at hi
    have c1 := hi.box.cell
    have c2 := hi.ok.cell
    have HX := hide (And.intro hi hK)
    clear hi hK hxs
    obtain ⟨tb, htb⟩ : ∃ tb, (tk nb (P ++ allSt os)).2 = tb := ⟨_, rfl⟩
    rw [htb] at c2
    have HT := hide htb
    clear htb
    gi_wp2
    gi_region
    gi_wp2
    obtain ⟨hi, hK⟩ := HX.out
    have hK' : X.drew.heap[D1]? = some (.deferred (some [])) := hK
    refine end_tmp2 (t := 2) (u := 3) (x := .slice (some ⟨w1.heap.size, 0, none⟩) nb nb) (y := .bool tb) Tryz.results60 rfl rfl rfl hK' ⟨w1.heap.size, by rw [HT.out], Nat.le_refl _, ?_, ?_⟩
    · exact hi.row.of_block (World.putObj_heap_other (w := X.drew) (by omega))
    · exact Below.putObj' hi.below.drew (by omega) (Array.getElem?_eq_some_iff.1 hK').1 _
  case stop =>
    rintro D1 cc pre X hD1 hpre hx hK
    exact hx.elim
end Go.Proofs.YtogdeaaphdlchaaGreatDoor
