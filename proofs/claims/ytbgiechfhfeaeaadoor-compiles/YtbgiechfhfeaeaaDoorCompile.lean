/-
  The program's Compile.
-/
import Derived.Test.YtbgiechfhfeaeaaDoorPart16
import Derived.Test.YtbgiechfhfeaeaaDoorWrite
namespace Go.Proofs.YtbgiechfhfeaeaaDoor
open Go.RowKit Go.Shelf Go.Deep Gf

attribute [local go_sem] Oper.semAt_some
/-- what lies in the blocks of Compile -/
structure CI (w : World) (D L G : Nat) (X : World) : Prop where
  par : X.heap[w.heap.size]? = some (.cells #[.int .i64 (D : Int), .int .i64 (L : Int), .int .i64 (G : Int)] 23 (0, 0))
  res : X.heap[w.heap.size + 1]? = some (.cells #[.int .i64 0, .slice none 0 0] 49 (0, 0))
  err : Boxed X (w.heap.size + 1 + 1) 26 .nilIface
  below : Below w.heap.size w X
theorem CI.mono {w X Y : World} {D L G B : Nat} (h : CI w D L G X) (hb : Below B X Y) (hB : w.heap.size + 3 ≤ B) : CI w D L G Y :=
  ⟨(hb.block _ (by omega)).trans h.par, (hb.block _ (by omega)).trans h.res, (hb.block _ (by omega)).trans h.err, h.below.trans (hb.mono (by omega))⟩
theorem CI.own {w X Y : World} {D L G B : Nat} {row : Option Nat} (h : CI w D L G X) (hB : w.heap.size + 3 ≤ B) (hg : X.grownBy Y row) (hr : ∀ r, row = some r → B ≤ r) : CI w D L G Y :=
  h.mono (B := w.heap.size + 3) ⟨hg.os, hg.tape, hg.output, hg.size, fun k hk => hg.block k (by have := h.err.lt; omega) (fun e => by have := hr k e.symm; omega)⟩ (Nat.le_refl _)
theorem par_cells {X : World} {b : Nat} {x y z : Value} {t : TypeId} (h : X.heap[b]? = some (.cells #[x, y, z] t (0, 0))) : X.cell? ⟨b, 0, none⟩ = some x ∧ X.cell? ⟨b, 1, none⟩ = some y ∧ X.cell? ⟨b, 2, none⟩ = some z := by simp [World.cell?, h]
/-- all n shards -/
def allN (n : Nat) : Nat := 2 ^ n - 1
theorem gone_key (lost n : Nat) (hl : lost < 18446744073709551616) (hn : n ≤ 16) : bits .and .u64 (lost : Int) (allN n : Int) = ((goneN n lost : Nat) : Int) := by
  have := pow16 hn
  have h2 : 0 < 2 ^ n := Nat.two_pow_pos n
  exact and_u64 lost (2 ^ n - 1) hl (by omega)
theorem pw_key (n : Nat) (h : n ≤ 16) : IntKind.u64.wrap ((pw n : Int) - 1) = (allN n : Int) := by
  have h1 := pow16 h
  have h2 : 0 < 2 ^ n := Nat.two_pow_pos n
  unfold pw allN
  rw [IntKind.wrap_u64]
  generalize 2 ^ n = q at h1 h2
  omega
theorem kept_key (lost n : Nat) (hn : n ≤ 16) : bits .andNot .u64 (allN n : Int) ((goneN n lost : Nat) : Int) = ((keptN n lost : Nat) : Int) := by
  have h1 := pow16 hn
  have h2 := goneN_lt lost hn
  exact u64_andNot_nat (2 ^ n - 1) (goneN n lost) (by omega) (by omega)
/-- what Compile answers -/
def CpPost (D L G lost : Nat) (w : World) (e : Ending) (w' : World) : Prop :=
  Below w.heap.size w w' ∧ ((tells (cks D L G) (mems (goneN (D + L + G) lost)) = none ∧ e = .returned (.tuple #[.agg #[.int .i64 0, .slice none 0 0], .iface 29 (.int .i64 3)])) ∨
    (∃ C v, tells (cks D L G) (mems (goneN (D + L + G) lost)) = some C ∧ e = .returned (.tuple #[.agg #[.int .i64 (1 + ((mems (goneN (D + L + G) lost)).length : Int)), v], .nilIface]) ∧
      w'.ownsRow w.heap.size 92 4 v (wrAll (fewestS 8 C (keptN (D + L + G) lost)).1 (goneN (D + L + G) lost) (keptN (D + L + G) lost)).length (stcs .u8 (wrAll (fewestS 8 C (keptN (D + L + G) lost)).1 (goneN (D + L + G) lost) (keptN (D + L + G) lost)))))
theorem first_eq {z : Int} (k : Nat) (hk : k ≤ 16) (hz : z = (k : Int)) (w : World) :
    Calls Tryd.prog 72 #[.int .i64 z] w fun e w' => e = .returned (.int .u64 (allN k : Int)) ∧ w' = w := by subst hz; exact first_any k hk w
def preL (pre : List Sh) : List Nat := pre.map (·.1)
theorem preL_snoc (pre : List Sh) (x : Sh) : preL (pre ++ [x]) = preL pre ++ [x.1] := by unfold preL; simp
/-- between two lost shards -/
def CpI (w : World) (D L G Bc B : Nat) (pre : List Sh) (X : World) : Prop := CI w D L G X ∧ (∃ C, tells (cks D L G) (preL pre) = some C ∧ CkAt X Bc C) ∧ B ≤ X.heap.size
/-- behind one that cannot be told -/
def CpX (w : World) (D L G B : Nat) (c : Code) (pre : List Sh) (X : World) : Prop := c = .ret ∧ tells (cks D L G) (preL pre) = none ∧ Below w.heap.size w X ∧ B ≤ X.heap.size ∧
  X.heap[w.heap.size + 1]? = some (.cells #[.int .i64 0, .slice none 0 0] 49 (0, 0)) ∧ Boxed X (w.heap.size + 1 + 1) 26 (.iface 29 (.int .i64 3))
theorem CpI.own {w : World} {D L G Bc B : Nat} (hB : w.heap.size + 3 ≤ B) (hc : Bc < B) : OwnFrom B (CpI w D L G Bc B) := by
  rintro pre X Y row ⟨h1, ⟨C, h2, h3⟩, h4⟩ hg hr
  exact ⟨h1.own hB hg (fun r e => (hr r e).1), ⟨C, h2, h3.keep (hg.block _ h3.lt (fun e => by have := (hr _ e.symm).1; omega))⟩, Nat.le_trans h4 hg.size⟩
theorem CpX.own {w : World} {D L G B : Nat} (hB : w.heap.size + 3 ≤ B) (c : Code) : OwnFrom B (CpX w D L G B c) := by
  rintro pre X Y row ⟨h1, h2, h3, h4, h5, h6⟩ hg hr
  have hk : ∀ k, k < w.heap.size + 3 → Y.heap[k]? = X.heap[k]? := fun k hk => hg.block k (by omega) (fun e => by have := (hr k e.symm).1; omega)
  exact ⟨h1, h2, h3.grown hg h3.size (fun k e => by have := (hr k e).1; omega), Nat.le_trans h4 hg.size, (hk _ (by omega)).trans h5, (hk _ (by omega)).trans h6⟩
/-- both results are handed back, and the loop's mark is taken up -/
theorem cp_end {n : Nat} {w Z : World} {D' : Nat} {x y ev : Value} {a : Act} {R : Ending → World → Prop} (hd : a.defers = [{ target := .collected D', args := #[] }]) (h4 : a.tmps.getD 4 undef = .pointer (some ⟨w.heap.size + 1, 0, none⟩)) (h5 : a.tmps.getD 5 undef = .pointer (some ⟨w.heap.size + 1 + 1, 0, none⟩))
    (hres : Z.heap[w.heap.size + 1]? = some (.cells #[x, y] 49 (0, 0))) (herr : Boxed Z (w.heap.size + 1 + 1) 26 ev) (hK : Z.heap[D']? = some (.deferred (some []))) (hD : w.heap.size + 3 ≤ D')
    (hR : R (.returned (.tuple #[.agg #[x, y], ev])) (Z.putObj D' (.deferred none))) : bodyPostM Fence.wide n Tryd.prog Tryd.f51 R .ret a Z := by
  obtain ⟨tm, df⟩ := a
  simp only at hd h4 h5
  subst hd
  refine ⟨by simp, .inl ⟨_, _, rfl, run_takeDeferred hK, ?_⟩⟩
  obtain ⟨c0, c1, _⟩ := obj_cells (show (Z.putObj D' (.deferred none)).heap[w.heap.size + 1]? = _ from (World.putObj_heap_other (by omega)).trans hres)
  have ce := (show Boxed (Z.putObj D' (.deferred none)) (w.heap.size + 1 + 1) 26 ev from (World.putObj_heap_other (by omega)).trans herr).cell
  refine ⟨.tuple #[.agg #[x, y], ev], ?_, hR⟩
  have h4' : tm[4]?.getD undef = .pointer (some ⟨w.heap.size + 1, 0, none⟩) := by simpa using h4
  have h5' : tm[5]?.getD undef = .pointer (some ⟨w.heap.size + 1 + 1, 0, none⟩) := by simpa using h5
  simp [results, Tryd.results51, go_sem, h4', h5', c0, c1, ce]
set_option maxRecDepth 100000 in
set_option maxHeartbeats 4000000 in
theorem compile_right (D L G lost : Nat) (hr : rightB D L G = true) (hD1 : 1 ≤ D) (hD : D ≤ 12) (hL : 1 ≤ L) (hL4 : L ≤ 4) (hG : G ≤ 4) (hdiv : D % L = 0) (h16 : D + L + G ≤ 16) (hl : lost < 18446744073709551616) (w : World) (hT : tabLaid w) (h2 : 2 ≤ w.heap.size) :
    Calls Tryd.prog 51 #[.agg #[.int .i64 D, .int .i64 L, .int .i64 G], .int .u64 lost] w fun e w' => CpPost D L G lost w e w' := by
  obtain ⟨n, HN⟩ : ∃ n : Nat, Hid (9 ≤ n) := ⟨9, Nat.le_refl _⟩
  refine (callsIn_wide (n := n)).1 ?_
  refine callsIn_of_wp_marks Tryd.func51 rfl trivial ?_ rfl
  simp only [Tryd.ntmps51, List.size_toArray, List.length_cons, List.length_nil, Nat.reduceAdd, Nat.reduceSub, Array.replicate_succ, Array.replicate_zero, List.push_toArray, List.append_toArray, List.nil_append, List.cons_append]
  gi_wp2
  refine at_wide (matrix_right D L G hr hD hL hL4 hG hdiv _) ?_
  rintro e w1 ⟨v, T, rfl, hTb, hH, hb1⟩
  have hn3 : (((w.alloc (.cells #[.int .i64 (D : Int), .int .i64 (L : Int), .int .i64 (G : Int)] 23)).alloc (.cells #[.int .i64 0, .slice none 0 0] 49)).alloc (.cells #[.nilIface] 26)).heap.size = w.heap.size + 3 := by simp
  have hci : CI w D L G (((w.alloc (.cells #[.int .i64 (D : Int), .int .i64 (L : Int), .int .i64 (G : Int)] 23)).alloc (.cells #[.int .i64 0, .slice none 0 0] 49)).alloc (.cells #[.nilIface] 26)) := by
    obtain ⟨a1, a2, a3, a4⟩ := alloc3 w (.cells #[.int .i64 (D : Int), .int .i64 (L : Int), .int .i64 (G : Int)] 23) (.cells #[.int .i64 0, .slice none 0 0] 49) (.cells #[.nilIface] 26)
    exact ⟨a2, a3, a4, (((Below.refl _ w).alloc (Nat.le_refl _) _).alloc (by simp) _).alloc (by simp; omega) _⟩
  rw [hn3] at hb1
  have hci1 := hci.mono hb1 (Nat.le_refl _)
  have hs1 := hb1.size
  rw [hn3] at hs1
  clear hci hb1 hn3
  have hM : matL D L G ≠ [] := fun e => by have := mat_len D L G; rw [e] at this; simp at this; omega
  obtain ⟨g, c, rfl, hcap, hcc⟩ := mat_open hTb hH (mat_row D L G) hM
  obtain ⟨p0, p1, p2⟩ := par_cells hci1.par
  have HCI := hide hci1
  have HCC := hide hcc
  have hgk := gone_key lost (D + L + G) hl h16
  clear hTb hH hci1 hcc
  gi_wp2
  refine at_wide (shards_any D L G _ (by omega) (by omega) (by omega)) ?_
  rintro e w2 ⟨rfl, hb2⟩
  have hs2 := hb2.size
  have hci2 := HCI.out.mono hb2 (by omega)
  obtain ⟨p0, p1, p2⟩ := par_cells hci2.par
  have HCI2 := hide hci2
  have HB2 := hide hb2
  clear hci2 hb2
  gi_wp2
  refine at_wide (first_eq (D + L + G) h16 (by omega) w2) ?_
  rintro e w2' ⟨rfl, hw2'⟩
  subst hw2'
  have hck : Calls Tryd.prog 73 #[.slice (some ⟨g, 0, none⟩) (matL D L G).length c, .int .i64 D] w2' fun e w' => e = .returned (.agg (ckA (cks D L G))) ∧ Below w2'.heap.size w2' w' := by
    have hlen := mat_len D L G
    have h := checksOf_any g 0 c (matL D L G) D w2' hcap (fun i hi => by
      obtain ⟨u, h1, h2⟩ := HCC.out i hi
      exact ⟨u, (HB2.out.cell (block_lt_of_cell h1)).trans h1, h2.mono HB2.out⟩) hD1 (by omega) (by omega) (by omega) (fun i hi => by
      have e : (matL D L G).getD i [] = (matL D L G)[i] := by simp [hi]
      rw [e]; exact mat_row D L G _ (List.getElem_mem hi))
    rw [show (matL D L G).length - D = L + G by omega] at h
    exact h
  gi_wp2
  refine at_wide hck ?_
  clear hck
  rintro e w4 ⟨rfl, hb4⟩
  have hs4 := hb4.size
  have hci4 := HCI2.out.mono hb4 (by omega)
  have hz := zeroCk
  have hszz := ckA_size ckZ
  have hszc := ckA_size (cks D L G)
  have hb5 : Below w4.heap.size w4 ((w4.alloc (.cells (ckA ckZ) 127)).setRow w4.heap.size (ckA (cks D L G))) := ((Below.refl _ _).alloc (Nat.le_refl _) _).grown (grown_setRow _ _ _) (by simp) (fun k e => by cases e; exact Nat.le_refl _)
  have hc5 : CkAt ((w4.alloc (.cells (ckA ckZ) 127)).setRow w4.heap.size (ckA (cks D L G))) w4.heap.size (cks D L G) := (CkAt.new w4 ckZ).setRow (cks D L G)
  have hci5 := hci4.mono hb5 (by omega)
  have hz5 : ((w4.alloc (.cells (ckA ckZ) 127)).setRow w4.heap.size (ckA (cks D L G))).heap.size = w4.heap.size + 1 := by simp [World.setRow]
  have H5 := hide (And.intro hc5 (And.intro hci5 hz5))
  clear HCI HCI2 HCC HB2 hb4 hci4 hb5 hc5 hci5 hz5
  gi_wp2_with (refine in_store rfl (.tmp 10) (.tmp 30) rfl w4.heap.size (cks D L G) ckZ rfl rfl (CkAt.new w4 ckZ) ?_)
  obtain ⟨w5, hw5⟩ : ∃ w5, (w4.alloc (.cells (ckA ckZ) 127)).setRow w4.heap.size (ckA (cks D L G)) = w5 := ⟨_, rfl⟩
  rw [hw5] at H5 ⊢
  clear hw5 hz hszz hszc
  refine at_wide (members_any (goneN (D + L + G) lost) w5) ?_
  rintro e w' ⟨rfl, rfl⟩
  have hz6 : (w5.alloc (.cells #[.int .u64 (goneN (D + L + G) lost : Int)] 122)).heap.size = w5.heap.size + 1 := by simp
  have hc6 : (w5.alloc (.cells #[.int .u64 (goneN (D + L + G) lost : Int)] 122)).cell? ⟨w5.heap.size, 0, none⟩ = some (.int .u64 (goneN (D + L + G) lost : Int)) := (Bx.new w5 122 (.int .u64 (goneN (D + L + G) lost : Int))).cell
  have hi6 : CpI w D L G w4.heap.size (w5.heap.size + 1) [] (w5.alloc (.cells #[.int .u64 (goneN (D + L + G) lost : Int)] 122)) := by
    have hb : Below w5.heap.size w5 (w5.alloc (.cells #[.int .u64 (goneN (D + L + G) lost : Int)] 122)) := (Below.refl _ _).alloc (Nat.le_refl _) _
    obtain ⟨q1, q2, q3⟩ := H5.out
    exact ⟨q2.mono hb (by omega), ⟨cks D L G, rfl, q1.keep (hb.block _ (by omega))⟩, by omega⟩
  obtain ⟨w6, hw6⟩ : ∃ w6, w5.alloc (.cells #[.int .u64 (goneN (D + L + G) lost : Int)] 122) = w6 := ⟨_, rfl⟩
  have hz45 := H5.out.2.2
  have HZ6 := hide (And.intro hz6 (And.intro hz45 (And.intro hs1 (And.intro hs2 hs4))))
  have HC6 := hide hc6
  have HI6 := hide hi6
  clear hz6 hc6 hi6 H5 hz45 hs1 hs2 hs4 p0 p1 p2
  gi_wp2
  rw [hw6] at HZ6 HC6 HI6
  clear hw6
  have hBB : w.heap.size + 3 ≤ w6.heap.size ∧ w4.heap.size < w6.heap.size ∧ w6.heap.size = w5.heap.size + 1 := by obtain ⟨q1, q2, q3, q4, q5⟩ := HZ6.out; omega
  obtain ⟨hB3, hB4, hB5⟩ := hBB
  rw [← hB5] at HI6
  have HB5 := hide hB5
  clear hB5
  refine wpIn_rangeFunc_ownG rfl (by have := HN.out; omega) (gf := 87) (lb := #[.pointer (some ⟨w5.heap.size, 0, none⟩)]) rfl trivial (enters_of Tryd.func87 (by kernel_rfl) rfl)
    (members_stops (n - 1) w5.heap.size (goneN (D + L + G) lost) (goneN_lt lost h16) w6 (by have := HB5.out; omega) HC6.out (by omega) (hT.mono (by omega) HI6.out.1.below)) (fun h k => kpT_t h k) (kpT_b (by omega)) (Below.refl _ _) (fun _ => rfl)
    (CpI w D L G w4.heap.size w6.heap.size) (CpX w D L G w6.heap.size) (CpI.own hB3 hB4) (CpX.own hB3) HI6.out
    (fun x => { tmps := #[.agg #[.int .i64 (D : Int), .int .i64 (L : Int), .int .i64 (G : Int)], .int .u64 (lost : Int), .pointer (some ⟨w.heap.size, 0, none⟩), undef, .pointer (some ⟨w.heap.size + 1, 0, none⟩), .pointer (some ⟨w.heap.size + 1 + 1, 0, none⟩), .slice (some ⟨g, 0, none⟩) (matL D L G).length c, .nilIface, .int .u64 (allN (D + L + G) : Int), .int .u64 (goneN (D + L + G) lost : Int), .pointer (some ⟨w4.heap.size, 0, none⟩), .int .i64 (x.1 : Int), .tuple #[.slice (some ⟨g, 0, none⟩) (matL D L G).length c, .nilIface], .agg #[.int .i64 (D : Int), .int .i64 (L : Int), .int .i64 (G : Int)], .tuple #[.slice (some ⟨g, 0, none⟩) (matL D L G).length c, .nilIface], .slice (some ⟨g, 0, none⟩) (matL D L G).length c, .nilIface, .nilIface, .bool false, undef, undef, .agg #[.int .i64 (D : Int), .int .i64 (L : Int), .int .i64 (G : Int)], .int .i64 ((D : Int) + (L : Int) + (G : Int)), .int .u64 (allN (D + L + G) : Int), .int .u64 (lost : Int), .int .u64 (allN (D + L + G) : Int), .int .u64 (goneN (D + L + G) lost : Int), .slice (some ⟨g, 0, none⟩) (matL D L G).length c, .pointer (some ⟨w.heap.size, 0, none⟩), .int .i64 (D : Int), .agg (ckA (cks D L G)), .int .u64 (goneN (D + L + G) lost : Int), .func (.func 87) #[] #[.pointer (some ⟨w5.heap.size, 0, none⟩)], .int .i64 (x.1 : Int), undef, undef, undef, undef, undef, undef, undef, undef, undef, undef, undef, undef, undef, undef, undef], defers := [] }) ?assign ?body ?done ?stop
  case assign =>
    intro l2 x X Kk hK
    unfold encSh
    gi_wp2
    exact hK
  case body =>
    rintro l2 pre x X ⟨hi, ⟨C, hC, hat⟩, hX⟩ hlen
    have hfit := cks_fit hD hL4 hG hC
    have htl := ckTell_any w4.heap.size x.1 C X hat hfit x.2
    have hsn : tells (cks D L G) (preL (pre ++ [x])) = tell C x.1 := by rw [preL_snoc, tells_snoc, hC]; rfl
    obtain ⟨r0, r1, g1, g0⟩ := obj_cells hi.res
    have ce := hi.err.cell
    have fe := hi.err.frozen
    have HI := hide hi
    have HX := hide hX
    clear hi hX hlen hC hat hfit
    gi_wp2
    refine at_round htl ?_
    clear htl
    rintro e w2 (⟨hln, rfl, hw2⟩ | ⟨C', hls, rfl, hC', hg'⟩)
    · subst hw2
      have HN0 := hide (hsn.trans hln)
      clear hsn hln
      gi_wp2
      have hi := HI.out
      have e1 := set2b (y' := .slice none 0 0) (set2a (x' := .int .i64 0) hi.res)
      have e2 : Boxed ((w2.setCell ⟨w.heap.size + 1, 0, none⟩ (.int .i64 0)).setCell ⟨w.heap.size + 1, 1, none⟩ (.slice none 0 0)) (w.heap.size + 1 + 1) 26 .nilIface := ((Below.heap_setCell _ _ _ _ (by show w.heap.size + 1 + 1 ≠ w.heap.size + 1; omega)).trans (Below.heap_setCell _ _ _ _ (by show w.heap.size + 1 + 1 ≠ w.heap.size + 1; omega))).trans hi.err
      refine ⟨(((KeepsOthers.setCell _ _ _).trans (KeepsOthers.setCell _ _ _)).trans (KeepsOthers.setCell _ _ _)).from _, rfl, HN0.out, ?_, ?_, ?_, ?_⟩
      · exact ((hi.below.setCell (p := ⟨w.heap.size + 1, 0, none⟩) (by show w.heap.size ≤ w.heap.size + 1; omega) _).setCell (p := ⟨w.heap.size + 1, 1, none⟩) (by show w.heap.size ≤ w.heap.size + 1; omega) _).setCell (p := ⟨w.heap.size + 1 + 1, 0, none⟩) (by show w.heap.size ≤ w.heap.size + 1 + 1; omega) _
      · have := HX.out; simpa [World.setCell] using this
      · exact (Below.heap_setCell _ _ _ _ (by show w.heap.size + 1 ≠ w.heap.size + 1 + 1; omega)).trans e1
      · exact e2.set _
    · have H2 := hide (And.intro (hsn.trans hls) (And.intro hC' hg'))
      clear hsn hls hC' hg'
      gi_wp2
      obtain ⟨q1, q2, q3⟩ := H2.out
      have hci' := HI.out.own (B := w.heap.size + 3) (Nat.le_refl _) q3 (fun r e => by cases e; obtain ⟨q1, q2, q3, q4, q5⟩ := HZ6.out; omega)
      exact ⟨⟨q3.size, fun k o hk ho _ => (q3.block k (Array.getElem?_eq_some_iff.1 ho).1 (fun e => by cases e; omega)).trans ho⟩, fun _ => hT.mono (by omega) hci'.below, hci', ⟨C', q1, q2⟩, Nat.le_trans HX.out q3.size⟩
  case done =>
    rintro D' xs X hD' hxs ⟨hi, ⟨C, hC, hat⟩, hX⟩ hK
    rw [show preL xs = mems (goneN (D + L + G) lost) from hxs] at hC
    have hplan := (plan_of hD hG hC).1
    have hfit := cks_fit hD hL4 hG hC
    have hfitB : CkFit (fewestS 8 C (keptN (D + L + G) lost)).1 := ⟨hplan.byt, hplan.le, by have := hplan.most; omega⟩
    have hkk := kept_key lost (D + L + G) h16
    have hX2 : 2 ≤ X.heap.size := by omega
    have hTX : tabLaid X := hT.mono (by omega) hi.below
    have hDX : D' < X.heap.size := (Array.getElem?_eq_some_iff.1 hK).1
    have HI := hide (And.intro hi (And.intro hat (And.intro hX (And.intro hK hC))))
    have HF := hide (And.intro hfit (And.intro hfitB hTX))
    clear hi hat hX hK hC hxs xs hplan hfit hfitB hTX HI6 HC6
    gi_wp2_with (refine in_load rfl (.tmp 10) rfl w4.heap.size C rfl HI.out.2.1 ?_)
    refine at_wide (fewest_any C (keptN (D + L + G) lost) X HF.out.1 (keptN_lt lost h16) HF.out.2.2 hX2) ?_
    rintro e w7 ⟨rfl, hb7⟩
    have hs7 := hb7.size
    have hi7 := HI.out.1.mono hb7 (by have := HI.out.1.err.lt; omega)
    have HI7 := hide (And.intro hi7 hb7)
    clear hi7 hb7
    gi_wp2
    refine at_wide (write_any (fewestS 8 C (keptN (D + L + G) lost)).1 (goneN (D + L + G) lost) (keptN (D + L + G) lost) w7 HF.out.2.1 (goneN_lt lost h16) (keptN_lt lost h16) (hT.mono (by omega) HI7.out.1.below) (by omega)) ?_
    rintro e w8 ⟨v, rfl, hb8, how⟩
    obtain ⟨ao, m, cc, rfl⟩ : ∃ ao m cc, v = .slice ao m cc := by
      rcases how.2 with ⟨rfl, _⟩ | ⟨g, cap, cur, rfl, _⟩
      · exact ⟨_, _, _, rfl⟩
      · exact ⟨_, _, _, rfl⟩
    have hi8 := HI7.out.1.mono hb8 (by have := HI7.out.1.err.lt; omega)
    have hK8 : w8.heap[D']? = some (.deferred (some [])) := ((hb8.block D' (by omega)).trans (HI7.out.2.block D' hDX)).trans HI.out.2.2.2.1
    obtain ⟨r0, r1, g1, g0⟩ := obj_cells hi8.res
    have ce := hi8.err.cell
    have fe := hi8.err.frozen
    have hs8 := hb8.size
    have H8 := hide (And.intro hi8 (And.intro hK8 how))
    clear hi8 hK8 how hb8
    gi_wp2
    obtain ⟨hi8, hK8, how⟩ := H8.out
    have hlt8 := hi8.err.lt
    have hge : ∀ q, (Value.slice ao m cc).ownBlock = some q → w7.heap.size ≤ q := fun q e => own_from how e
    have e1 := set2b (y' := .slice ao m cc) (set2a (x' := .int .i64 (1 + ((mems (goneN (D + L + G) lost)).length : Int))) hi8.res)
    have e2 : Boxed ((w8.setCell ⟨w.heap.size + 1, 0, none⟩ (.int .i64 (1 + ((mems (goneN (D + L + G) lost)).length : Int)))).setCell ⟨w.heap.size + 1, 1, none⟩ (.slice ao m cc)) (w.heap.size + 1 + 1) 26 .nilIface := ((Below.heap_setCell _ _ _ _ (by show w.heap.size + 1 + 1 ≠ w.heap.size + 1; omega)).trans (Below.heap_setCell _ _ _ _ (by show w.heap.size + 1 + 1 ≠ w.heap.size + 1; omega))).trans hi8.err
    have h7ne : ∀ k, k < w7.heap.size → (Value.slice ao m cc).ownBlock ≠ some k := fun k hk e => by have := hge k e; omega
    have how2 := ((how.kept (grown_set' w8 (w.heap.size + 1) 0 (.int .i64 (1 + ((mems (goneN (D + L + G) lost)).length : Int)))) (.inr (h7ne _ (by omega)))).kept (grown_set' _ (w.heap.size + 1) 1 (.slice ao m cc)) (.inr (h7ne _ (by omega)))).kept (grown_set' _ (w.heap.size + 1 + 1) 0 .nilIface) (.inr (h7ne _ (by omega)))
    have hko := ((KeepsOthers.setCell w8 ⟨w.heap.size + 1, 0, none⟩ (.int .i64 (1 + ((mems (goneN (D + L + G) lost)).length : Int)))).trans (KeepsOthers.setCell _ ⟨w.heap.size + 1, 1, none⟩ (.slice ao m cc))).trans (KeepsOthers.setCell _ ⟨w.heap.size + 1 + 1, 0, none⟩ .nilIface)
    have hK9 := hko.same D' _ hK8 rfl
    have hb9 := ((hi8.below.setCell (p := ⟨w.heap.size + 1, 0, none⟩) (by show w.heap.size ≤ w.heap.size + 1; omega) (.int .i64 (1 + ((mems (goneN (D + L + G) lost)).length : Int)))).setCell (p := ⟨w.heap.size + 1, 1, none⟩) (by show w.heap.size ≤ w.heap.size + 1; omega) (.slice ao m cc)).setCell (p := ⟨w.heap.size + 1 + 1, 0, none⟩) (by show w.heap.size ≤ w.heap.size + 1 + 1; omega) .nilIface
    have how3 := how2.kept (grownBy_putObj' _ D' (.deferred none)) (.inr (h7ne D' (by omega)))
    exact cp_end (w := w) rfl rfl rfl ((Below.heap_setCell _ _ _ _ (by show w.heap.size + 1 ≠ w.heap.size + 1 + 1; omega)).trans e1) (e2.set _) hK9 (by omega)
      ⟨Below.putObj' hb9 (by omega) (Array.getElem?_eq_some_iff.1 hK9).1 _, .inr ⟨C, _, HI.out.2.2.2.2, rfl, owns_mono how3 (by omega)⟩⟩
  case stop =>
    rintro D' cc pre X hD' hpre ⟨rfl, hno, hb, hX, hres, herr⟩ hK
    have hno' : tells (cks D L G) (mems (goneN (D + L + G) lost)) = none := by
      obtain ⟨R, hR⟩ := hpre
      rw [← hR]
      exact tells_none_append _ _ _ hno
    have HH := hide (And.intro hb (And.intro hres (And.intro herr (And.intro hK hno'))))
    clear hb hres herr hK hno' hno
    gi_wp2
    obtain ⟨q1, q2, q3, q4, q5⟩ := HH.out
    exact cp_end (w := w) rfl rfl rfl q2 q3 q4 (by omega) ⟨Below.putObj' q1 (by omega) (Array.getElem?_eq_some_iff.1 q4).1 _, .inl ⟨q5, rfl⟩⟩
set_option maxRecDepth 100000 in
set_option maxHeartbeats 4000000 in
theorem compile_wrong (D L G : Int) (lost : Nat) (hr : rightB D L G = false) (w : World) :
    Calls Tryd.prog 51 #[.agg #[.int .i64 D, .int .i64 L, .int .i64 G], .int .u64 lost] w fun e w' => e = .returned (.tuple #[.agg #[.int .i64 0, .slice none 0 0], .iface 29 (.int .i64 1)]) ∧ Below w.heap.size w w' := by
  go_enter Tryd.func51, Tryd.ntmps51
  go_wp2_with fail
  refine (matrix_wrong D L G hr _).mono ?_
  rintro e w1 ⟨rfl, hb1⟩
  simp only [World.size_alloc] at hb1
  obtain ⟨a1, a2, a3, a4⟩ := alloc3 w (.cells #[.int .i64 D, .int .i64 L, .int .i64 G] 23) (.cells #[.int .i64 0, .slice none 0 0] 49) (.cells #[.nilIface] 26)
  have hb3 : Below w.heap.size w (((w.alloc (.cells #[.int .i64 D, .int .i64 L, .int .i64 G] 23)).alloc (.cells #[.int .i64 0, .slice none 0 0] 49)).alloc (.cells #[.nilIface] 26)) := (((Below.refl _ w).alloc (Nat.le_refl _) _).alloc (by simp) _).alloc (by simp; omega) _
  have hbw := hb3.trans (hb1.mono (by omega))
  have r := (hb1.block (w.heap.size + 1) (by omega)).trans a3
  have er : Boxed w1 (w.heap.size + 1 + 1) 26 .nilIface := (hb1.block (w.heap.size + 1 + 1) (by omega)).trans a4
  obtain ⟨r0, r1, g1, g0⟩ := obj_cells r
  have ce := er.cell
  have fe := er.frozen
  have H := hide (And.intro r (And.intro er hbw))
  clear a1 a2 a3 a4 hb3 hb1 r er hbw
  go_wp2
  obtain ⟨r, er, hbw⟩ := H.out
  have e1 := set2b (y' := .slice none 0 0) (set2a (x' := .int .i64 0) r)
  have e2 : Boxed ((w1.setCell ⟨w.heap.size + 1, 0, none⟩ (.int .i64 0)).setCell ⟨w.heap.size + 1, 1, none⟩ (.slice none 0 0)) (w.heap.size + 1 + 1) 26 .nilIface := ((Below.heap_setCell _ _ _ _ (by show w.heap.size + 1 + 1 ≠ w.heap.size + 1; omega)).trans (Below.heap_setCell _ _ _ _ (by show w.heap.size + 1 + 1 ≠ w.heap.size + 1; omega))).trans er
  obtain ⟨n0, n1, _⟩ := obj_cells ((Below.heap_setCell _ ⟨w.heap.size + 1 + 1, 0, none⟩ (.iface 29 (.int .i64 1)) (w.heap.size + 1) (by show w.heap.size + 1 ≠ w.heap.size + 1 + 1; omega)).trans e1)
  have n2 := (e2.set (.iface 29 (.int .i64 1))).cell
  refine bodyPost_ret (v := .tuple #[.agg #[.int .i64 0, .slice none 0 0], .iface 29 (.int .i64 1)]) (by simp [results, Tryd.results51, go_sem, n0, n1, n2]) rfl ?_
  exact ⟨rfl, ((hbw.setCell (p := ⟨w.heap.size + 1, 0, none⟩) (by show w.heap.size ≤ w.heap.size + 1; omega) _).setCell (p := ⟨w.heap.size + 1, 1, none⟩) (by show w.heap.size ≤ w.heap.size + 1; omega) _).setCell (p := ⟨w.heap.size + 1 + 1, 0, none⟩) (by show w.heap.size ≤ w.heap.size + 1 + 1; omega) _⟩
/-! ### as the law calls it -/
set_option maxRecDepth 100000 in
set_option maxHeartbeats 1000000 in
theorem scompile_right (D L G lost : Nat) (hr : rightB D L G = true) (hD1 : 1 ≤ D) (hD : D ≤ 12) (hL : 1 ≤ L) (hL4 : L ≤ 4) (hG : G ≤ 4) (hdiv : D % L = 0) (h16 : D + L + G ≤ 16) (hl : lost < 18446744073709551616) (w : World) (hT : tabLaid w) (h2 : 2 ≤ w.heap.size) :
    Calls Tryd.prog 36 #[.agg #[.int .i64 D, .int .i64 L, .int .i64 G], .int .u64 lost] w fun e w' => CpPost D L G lost w e w' := by
  have hb : Below w.heap.size w ((w.alloc (.cells #[.int .i64 (D : Int), .int .i64 (L : Int), .int .i64 (G : Int)] 23)).alloc (.cells #[.int .i64 0, .slice none 0 0] 49)) := ((Below.refl _ w).alloc (Nat.le_refl _) _).alloc (by simp) _
  have hz : ((w.alloc (.cells #[.int .i64 (D : Int), .int .i64 (L : Int), .int .i64 (G : Int)] 23)).alloc (.cells #[.int .i64 0, .slice none 0 0] 49)).heap.size = w.heap.size + 2 := by simp
  have hres : ((w.alloc (.cells #[.int .i64 (D : Int), .int .i64 (L : Int), .int .i64 (G : Int)] 23)).alloc (.cells #[.int .i64 0, .slice none 0 0] 49)).heap[w.heap.size + 1]? = some (.cells #[.int .i64 0, .slice none 0 0] 49 (0, 0)) := by
    have := World.alloc_heap_new (w.alloc (.cells #[.int .i64 (D : Int), .int .i64 (L : Int), .int .i64 (G : Int)] 23)) (.cells #[.int .i64 0, .slice none 0 0] 49)
    rwa [World.size_alloc] at this
  have hT2 := hT.mono (by omega) hb
  have H := hide (And.intro hb (And.intro hz hres))
  clear hb hz hres
  go_enter Tryd.func36, Tryd.ntmps36
  go_wp2_with fail
  refine (compile_right D L G lost hr hD1 hD hL hL4 hG hdiv h16 hl _ hT2 (by simp)).mono ?_
  rintro e w1 ⟨hb1, hcase⟩
  obtain ⟨hb, hz, hres⟩ := H.out
  rw [hz] at hb1
  have hbw := hb.trans (hb1.mono (by omega))
  have r := (hb1.block (w.heap.size + 1) (by omega)).trans hres
  obtain ⟨r0, r1, g1, g0⟩ := obj_cells r
  have H1 := hide (And.intro r hbw)
  clear H hb hres hb1 r hbw
  rcases hcase with ⟨hno, rfl⟩ | ⟨C, v, hC, rfl, how⟩
  · go_wp2
    obtain ⟨r, hbw⟩ := H1.out
    obtain ⟨n0, n1, _⟩ := obj_cells (set2b (y' := .slice none 0 0) (set2a (x' := .int .i64 0) r))
    refine bodyPost_ret (v := .tuple #[.agg #[.int .i64 0, .slice none 0 0], .iface 29 (.int .i64 3)]) (by simp [results, Tryd.results36, go_sem, n0, n1]) rfl ?_
    exact ⟨(hbw.setCell (p := ⟨w.heap.size + 1, 0, none⟩) (by show w.heap.size ≤ w.heap.size + 1; omega) _).setCell (p := ⟨w.heap.size + 1, 1, none⟩) (by show w.heap.size ≤ w.heap.size + 1; omega) _, .inl ⟨hno, rfl⟩⟩
  · rw [hz] at how
    obtain ⟨ao, m, cc, rfl⟩ : ∃ ao m cc, v = .slice ao m cc := by
      rcases how.2 with ⟨rfl, _⟩ | ⟨g, cap, cur, rfl, _⟩
      · exact ⟨_, _, _, rfl⟩
      · exact ⟨_, _, _, rfl⟩
    have HO := hide how
    clear how
    go_wp2
    obtain ⟨r, hbw⟩ := H1.out
    have how := HO.out
    obtain ⟨n0, n1, _⟩ := obj_cells (set2b (y' := .slice ao m cc) (set2a (x' := .int .i64 (1 + ((mems (goneN (D + L + G) lost)).length : Int))) r))
    have h7ne : (Value.slice ao m cc).ownBlock ≠ some (w.heap.size + 1) := fun e => by have := own_from how e; omega
    have how2 := (how.kept (grown_set' w1 (w.heap.size + 1) 0 (.int .i64 (1 + ((mems (goneN (D + L + G) lost)).length : Int)))) (.inr h7ne)).kept (grown_set' _ (w.heap.size + 1) 1 (.slice ao m cc)) (.inr h7ne)
    refine bodyPost_ret (v := .tuple #[.agg #[.int .i64 (1 + ((mems (goneN (D + L + G) lost)).length : Int)), .slice ao m cc], .nilIface]) (by simp [results, Tryd.results36, go_sem, n0, n1]) rfl ?_
    exact ⟨(hbw.setCell (p := ⟨w.heap.size + 1, 0, none⟩) (by show w.heap.size ≤ w.heap.size + 1; omega) _).setCell (p := ⟨w.heap.size + 1, 1, none⟩) (by show w.heap.size ≤ w.heap.size + 1; omega) _, .inr ⟨C, _, hC, rfl, owns_mono how2 (by omega)⟩⟩
set_option maxRecDepth 100000 in
set_option maxHeartbeats 1000000 in
theorem scompile_wrong (D L G : Int) (lost : Nat) (hr : rightB D L G = false) (w : World) :
    Calls Tryd.prog 36 #[.agg #[.int .i64 D, .int .i64 L, .int .i64 G], .int .u64 lost] w fun e w' => e = .returned (.tuple #[.agg #[.int .i64 0, .slice none 0 0], .iface 29 (.int .i64 1)]) ∧ Below w.heap.size w w' := by
  have hb : Below w.heap.size w ((w.alloc (.cells #[.int .i64 D, .int .i64 L, .int .i64 G] 23)).alloc (.cells #[.int .i64 0, .slice none 0 0] 49)) := ((Below.refl _ w).alloc (Nat.le_refl _) _).alloc (by simp) _
  have hres : ((w.alloc (.cells #[.int .i64 D, .int .i64 L, .int .i64 G] 23)).alloc (.cells #[.int .i64 0, .slice none 0 0] 49)).heap[w.heap.size + 1]? = some (.cells #[.int .i64 0, .slice none 0 0] 49 (0, 0)) := by
    have := World.alloc_heap_new (w.alloc (.cells #[.int .i64 D, .int .i64 L, .int .i64 G] 23)) (.cells #[.int .i64 0, .slice none 0 0] 49)
    rwa [World.size_alloc] at this
  have H := hide (And.intro hb hres)
  clear hb hres
  go_enter Tryd.func36, Tryd.ntmps36
  go_wp2_with fail
  refine (compile_wrong D L G lost hr _).mono ?_
  rintro e w1 ⟨rfl, hb1⟩
  simp only [World.size_alloc] at hb1
  obtain ⟨hb, hres⟩ := H.out
  have hbw := hb.trans (hb1.mono (by omega))
  have r := (hb1.block (w.heap.size + 1) (by omega)).trans hres
  obtain ⟨r0, r1, g1, g0⟩ := obj_cells r
  have H1 := hide (And.intro r hbw)
  clear H hb hres hb1 r hbw
  go_wp2
  obtain ⟨r, hbw⟩ := H1.out
  obtain ⟨n0, n1, _⟩ := obj_cells (set2b (y' := .slice none 0 0) (set2a (x' := .int .i64 0) r))
  refine bodyPost_ret (v := .tuple #[.agg #[.int .i64 0, .slice none 0 0], .iface 29 (.int .i64 1)]) (by simp [results, Tryd.results36, go_sem, n0, n1]) rfl ?_
  exact ⟨rfl, (hbw.setCell (p := ⟨w.heap.size + 1, 0, none⟩) (by show w.heap.size ≤ w.heap.size + 1; omega) _).setCell (p := ⟨w.heap.size + 1, 1, none⟩) (by show w.heap.size ≤ w.heap.size + 1; omega) _⟩
end Go.Proofs.YtbgiechfhfeaeaaDoor
