/-
  The program's checksFor: the checks that tell the lost shards.
-/
import Derived.Test.YthhommjlomphdabDoorPart15
import Derived.Test.YthhommjlomphdabDoorPart14
namespace Go.Proofs.YthhommjlomphdabDoor
open Go.RowKit Go.Shelf Go.Deep Gf

attribute [local go_sem] Oper.semAt_some
/-- what lies in the blocks of checksFor -/
structure CF (w : World) (D L G : Nat) (X : World) : Prop where
  par : X.heap[w.heap.size]? = some (.cells #[.int .i64 (D : Int), .int .i64 (L : Int), .int .i64 (G : Int)] 23 (0, 0))
  res : CkAt X (w.heap.size + 1) ckZ
  err : Boxed X (w.heap.size + 1 + 1) 38 .nilIface
  below : Below w.heap.size w X
theorem CF.mono {w X Y : World} {D L G B : Nat} (h : CF w D L G X) (hb : Below B X Y) (hB : w.heap.size + 3 ≤ B) : CF w D L G Y :=
  ⟨(hb.block _ (by omega)).trans h.par, h.res.keep (hb.block _ (by omega)), (hb.block _ (by omega)).trans h.err, h.below.trans (hb.mono (by omega))⟩
theorem CF.own {w X Y : World} {D L G B : Nat} {row : Option Nat} (h : CF w D L G X) (hB : w.heap.size + 3 ≤ B) (hg : X.grownBy Y row) (hr : ∀ r, row = some r → B ≤ r) : CF w D L G Y :=
  h.mono (B := w.heap.size + 3) ⟨hg.os, hg.tape, hg.output, hg.size, fun k hk => hg.block k (by have := h.err.lt; omega) (fun e => by have := hr k e.symm; omega)⟩ (Nat.le_refl _)
theorem par_cells {X : World} {b : Nat} {x y z : Value} {t : TypeId} (h : X.heap[b]? = some (.cells #[x, y, z] t (0, 0))) : X.cell? ⟨b, 0, none⟩ = some x ∧ X.cell? ⟨b, 1, none⟩ = some y ∧ X.cell? ⟨b, 2, none⟩ = some z := by simp [World.cell?, h]
/-- what checksFor answers -/
def CfPost (D L G S : Nat) (w : World) (e : Ending) (w' : World) : Prop :=
  Below w.heap.size w w' ∧ ((tells (cks D L G) (mems S) = none ∧ e = .returned (.tuple #[.agg (ckA ckZ), .iface 41 (.int .i64 3)])) ∨
    (∃ C, tells (cks D L G) (mems S) = some C ∧ e = .returned (.tuple #[.agg (ckA C), .nilIface])))
def preL (pre : List Sh) : List Nat := pre.map (·.1)
theorem preL_snoc (pre : List Sh) (x : Sh) : preL (pre ++ [x]) = preL pre ++ [x.1] := by unfold preL; simp
/-- between two lost shards -/
def CfI (w : World) (D L G Bc B : Nat) (pre : List Sh) (X : World) : Prop := CF w D L G X ∧ (∃ C, tells (cks D L G) (preL pre) = some C ∧ CkAt X Bc C) ∧ B ≤ X.heap.size
/-- behind one that cannot be told -/
def CfX (w : World) (D L G B : Nat) (c : Code) (pre : List Sh) (X : World) : Prop := c = .ret ∧ tells (cks D L G) (preL pre) = none ∧ Below w.heap.size w X ∧ B ≤ X.heap.size ∧
  CkAt X (w.heap.size + 1) ckZ ∧ Boxed X (w.heap.size + 1 + 1) 38 (.iface 41 (.int .i64 3))
theorem CfI.own {w : World} {D L G Bc B : Nat} (hB : w.heap.size + 3 ≤ B) (hc : Bc < B) : OwnFrom B (CfI w D L G Bc B) := by
  rintro pre X Y row ⟨h1, ⟨C, h2, h3⟩, h4⟩ hg hr
  exact ⟨h1.own hB hg (fun r e => (hr r e).1), ⟨C, h2, h3.keep (hg.block _ h3.lt (fun e => by have := (hr _ e.symm).1; omega))⟩, Nat.le_trans h4 hg.size⟩
theorem CfX.own {w : World} {D L G B : Nat} (hB : w.heap.size + 3 ≤ B) (c : Code) : OwnFrom B (CfX w D L G B c) := by
  rintro pre X Y row ⟨h1, h2, h3, h4, h5, h6⟩ hg hr
  have hk : ∀ k, k < w.heap.size + 3 → Y.heap[k]? = X.heap[k]? := fun k hk => hg.block k (by omega) (fun e => by have := (hr k e.symm).1; omega)
  exact ⟨h1, h2, h3.grown hg h3.size (fun k e => by have := (hr k e).1; omega), Nat.le_trans h4 hg.size, h5.keep (hk _ (by omega)), (hk _ (by omega)).trans h6⟩
theorem keeps_ckRow {X : World} {b : Nat} {C : Ck} (h : CkAt X b C) (cs : Array Value) : KeepsOthers X (X.setRow b cs) :=
  KeepsOthers.of_grownBy (grown_setRow _ _ _) (fun j o e ho => by cases e; rw [h.heap] at ho; cases ho; rfl)
theorem ck_loadVar {w : World} {b : Nat} {C : Ck} (h : CkAt w b C) : (loadVar 68 ⟨b, 0, none⟩).run Tryd.prog w = .ok (.agg (ckA C)) w := run_loadVar_row w b 68 68 (ckA C) (0, 0) _ h.heap Tryd.underlying68 rfl (ckA_info C)
/-- both results are handed back, and the loop's mark is taken up -/
theorem cf_end {n : Nat} {w Z : World} {D' : Nat} {C : Ck} {ev : Value} {a : Act} {R : Ending → World → Prop} (hd : a.defers = [{ target := .collected D', args := #[] }]) (h4 : a.tmps.getD 4 undef = .pointer (some ⟨w.heap.size + 1, 0, none⟩)) (h5 : a.tmps.getD 5 undef = .pointer (some ⟨w.heap.size + 1 + 1, 0, none⟩))
    (hres : CkAt Z (w.heap.size + 1) C) (herr : Boxed Z (w.heap.size + 1 + 1) 38 ev) (hK : Z.heap[D']? = some (.deferred (some []))) (hD : w.heap.size + 3 ≤ D')
    (hR : R (.returned (.tuple #[.agg (ckA C), ev])) (Z.putObj D' (.deferred none))) : bodyPostM Fence.wide n Tryd.prog Tryd.f27 R .ret a Z := by
  obtain ⟨tm, df⟩ := a
  simp only at hd h4 h5
  subst hd
  refine ⟨by simp, .inl ⟨_, _, rfl, run_takeDeferred hK, ?_⟩⟩
  have c0 := ck_loadVar (show CkAt (Z.putObj D' (.deferred none)) (w.heap.size + 1) C from hres.keep (World.putObj_heap_other (by omega)))
  have ce := (show Boxed (Z.putObj D' (.deferred none)) (w.heap.size + 1 + 1) 38 ev from (World.putObj_heap_other (by omega)).trans herr).cell
  have ce' : (loadVar 38 ⟨w.heap.size + 1 + 1, 0, none⟩).run Tryd.prog (Z.putObj D' (.deferred none)) = .ok ev (Z.putObj D' (.deferred none)) := by simp [go_sem, ce]
  refine ⟨.tuple #[.agg (ckA C), ev], ?_, hR⟩
  have h4' : tm[4]?.getD undef = .pointer (some ⟨w.heap.size + 1, 0, none⟩) := by simpa using h4
  have h5' : tm[5]?.getD undef = .pointer (some ⟨w.heap.size + 1 + 1, 0, none⟩) := by simpa using h5
  simp [results, Tryd.results27, asAddr, h4', h5', c0, ce']
set_option maxRecDepth 100000 in
set_option maxHeartbeats 4000000 in
theorem checksFor_right (D L G S : Nat) (hr : rightB D L G = true) (hD1 : 1 ≤ D) (hD : D ≤ 12) (hL : 1 ≤ L) (hL4 : L ≤ 4) (hG : G ≤ 4) (hdiv : D % L = 0) (h16 : D + L + G ≤ 16) (hS : S < 65536) (w : World) (hT : tabLaid w) (h2 : 2 ≤ w.heap.size) :
    Calls Tryd.prog 27 #[.agg #[.int .i64 D, .int .i64 L, .int .i64 G], .int .u64 S] w fun e w' => CfPost D L G S w e w' := by
  obtain ⟨n, HN⟩ : ∃ n : Nat, Hid (9 ≤ n) := ⟨9, Nat.le_refl _⟩
  refine (callsIn_wide (n := n)).1 ?_
  refine callsIn_of_wp_marks Tryd.func27 rfl trivial ?_ rfl
  simp only [Tryd.ntmps27, List.size_toArray, List.length_cons, List.length_nil, Nat.reduceAdd, Nat.reduceSub, Array.replicate_succ, Array.replicate_zero, List.push_toArray, List.append_toArray, List.nil_append, List.cons_append]
  have hz := zeroCk
  have hszz := ckA_size ckZ
  gi_wp2
  refine at_wide (matrix_right D L G hr hD hL hL4 hG hdiv _) ?_
  rintro e w1 ⟨v, T, rfl, hTb, hH, hb1⟩
  have hn3 : (((w.alloc (.cells #[.int .i64 (D : Int), .int .i64 (L : Int), .int .i64 (G : Int)] 23)).alloc (.cells (ckA ckZ) 68)).alloc (.cells #[.nilIface] 38)).heap.size = w.heap.size + 3 := by simp
  have hci : CF w D L G (((w.alloc (.cells #[.int .i64 (D : Int), .int .i64 (L : Int), .int .i64 (G : Int)] 23)).alloc (.cells (ckA ckZ) 68)).alloc (.cells #[.nilIface] 38)) := by
    obtain ⟨a1, a2, a3, a4⟩ := alloc3 w (.cells #[.int .i64 (D : Int), .int .i64 (L : Int), .int .i64 (G : Int)] 23) (.cells (ckA ckZ) 68) (.cells #[.nilIface] 38)
    exact ⟨a2, CkAt.of_heap a3, a4, (((Below.refl _ w).alloc (Nat.le_refl _) _).alloc (by simp) _).alloc (by simp; omega) _⟩
  rw [hn3] at hb1
  have hci1 := hci.mono hb1 (Nat.le_refl _)
  have hs1 := hb1.size
  rw [hn3] at hs1
  have HB1 := hide hb1
  clear hci hb1 hn3
  have hM : matL D L G ≠ [] := fun e => by have := mat_len D L G; rw [e] at this; simp at this; omega
  obtain ⟨g, c, rfl, hcap, hcc⟩ := mat_open hTb hH (mat_row D L G) hM
  obtain ⟨p0, p1, p2⟩ := par_cells hci1.par
  have hck : Calls Tryd.prog 38 #[.slice (some ⟨g, 0, none⟩) (matL D L G).length c, .int .i64 D] w1 fun e w' => e = .returned (.agg (ckA (cks D L G))) ∧ Below w1.heap.size w1 w' := by
    have hlen := mat_len D L G
    have h := checksOf_any g 0 c (matL D L G) D w1 hcap (fun i hi => hcc i hi) hD1 (by omega) (by omega) (by omega) (fun i hi => by
      have e : (matL D L G).getD i [] = (matL D L G)[i] := by simp [hi]
      rw [e]; exact mat_row D L G _ (List.getElem_mem hi))
    rw [show (matL D L G).length - D = L + G by omega] at h
    exact h
  have HCI := hide hci1
  clear hTb hH hci1 hcc
  gi_wp2
  refine at_wide hck ?_
  clear hck
  rintro e w4 ⟨rfl, hb4⟩
  have hs4 := hb4.size
  have hci4 := HCI.out.mono hb4 (by omega)
  have hszc := ckA_size (cks D L G)
  have hb5 : Below w4.heap.size w4 ((w4.alloc (.cells (ckA ckZ) 68)).setRow w4.heap.size (ckA (cks D L G))) := ((Below.refl _ _).alloc (Nat.le_refl _) _).grown (grown_setRow _ _ _) (by simp) (fun k e => by cases e; exact Nat.le_refl _)
  have hc5 : CkAt ((w4.alloc (.cells (ckA ckZ) 68)).setRow w4.heap.size (ckA (cks D L G))) w4.heap.size (cks D L G) := (CkAt.new w4 ckZ).setRow (cks D L G)
  have hci5 := hci4.mono hb5 (by omega)
  have hz5 : ((w4.alloc (.cells (ckA ckZ) 68)).setRow w4.heap.size (ckA (cks D L G))).heap.size = w4.heap.size + 1 := by simp [World.setRow]
  have H5 := hide (And.intro hc5 (And.intro hci5 hz5))
  clear HCI HB1 hb4 hci4 hb5 hc5 hci5 hz5
  gi_wp2_with (refine in_store rfl (.tmp 8) (.tmp 22) rfl w4.heap.size (cks D L G) ckZ rfl rfl (CkAt.new w4 ckZ) ?_)
  obtain ⟨w5, hw5⟩ : ∃ w5, (w4.alloc (.cells (ckA ckZ) 68)).setRow w4.heap.size (ckA (cks D L G)) = w5 := ⟨_, rfl⟩
  rw [hw5] at H5 ⊢
  clear hw5 hszc
  refine at_wide (members_any S w5) ?_
  rintro e w' ⟨rfl, rfl⟩
  have hz6 : (w5.alloc (.cells #[.int .u64 (S : Int)] 63)).heap.size = w5.heap.size + 1 := by simp
  have hc6 : (w5.alloc (.cells #[.int .u64 (S : Int)] 63)).cell? ⟨w5.heap.size, 0, none⟩ = some (.int .u64 (S : Int)) := (Bx.new w5 63 (.int .u64 (S : Int))).cell
  have hi6 : CfI w D L G w4.heap.size (w5.heap.size + 1) [] (w5.alloc (.cells #[.int .u64 (S : Int)] 63)) := by
    have hb : Below w5.heap.size w5 (w5.alloc (.cells #[.int .u64 (S : Int)] 63)) := (Below.refl _ _).alloc (Nat.le_refl _) _
    obtain ⟨q1, q2, q3⟩ := H5.out
    exact ⟨q2.mono hb (by omega), ⟨cks D L G, rfl, q1.keep (hb.block _ (by omega))⟩, by omega⟩
  obtain ⟨w6, hw6⟩ : ∃ w6, w5.alloc (.cells #[.int .u64 (S : Int)] 63) = w6 := ⟨_, rfl⟩
  have hz45 := H5.out.2.2
  have HZ6 := hide (And.intro hz6 (And.intro hz45 (And.intro hs1 hs4)))
  have HC6 := hide hc6
  have HI6 := hide hi6
  clear hz6 hc6 hi6 H5 hz45 hs1 hs4 p0 p1 p2
  gi_wp2
  rw [hw6] at HZ6 HC6 HI6
  clear hw6
  have hBB : w.heap.size + 3 ≤ w6.heap.size ∧ w4.heap.size < w6.heap.size ∧ w6.heap.size = w5.heap.size + 1 := by obtain ⟨q1, q2, q3, q4⟩ := HZ6.out; omega
  obtain ⟨hB3, hB4, hB5⟩ := hBB
  rw [← hB5] at HI6
  have HB5 := hide hB5
  clear hB5
  refine wpIn_rangeFunc_ownG rfl (by have := HN.out; omega) (gf := 52) (lb := #[.pointer (some ⟨w5.heap.size, 0, none⟩)]) rfl trivial (enters_of Tryd.func52 (by kernel_rfl) rfl)
    (members_stops (n - 1) w5.heap.size S hS w6 (by have := HB5.out; omega) HC6.out (by omega) (hT.mono (by omega) HI6.out.1.below)) (fun h k => kpT_t h k) (kpT_b (by omega)) (Below.refl _ _) (fun _ => rfl)
    (CfI w D L G w4.heap.size w6.heap.size) (CfX w D L G w6.heap.size) (CfI.own hB3 hB4) (CfX.own hB3) HI6.out
    (fun x => { tmps := #[.agg #[.int .i64 (D : Int), .int .i64 (L : Int), .int .i64 (G : Int)], .int .u64 (S : Int), .pointer (some ⟨w.heap.size, 0, none⟩), undef, .pointer (some ⟨w.heap.size + 1, 0, none⟩), .pointer (some ⟨w.heap.size + 1 + 1, 0, none⟩), .slice (some ⟨g, 0, none⟩) (matL D L G).length c, .nilIface, .pointer (some ⟨w4.heap.size, 0, none⟩), .int .i64 (x.1 : Int), .tuple #[.slice (some ⟨g, 0, none⟩) (matL D L G).length c, .nilIface], .agg #[.int .i64 (D : Int), .int .i64 (L : Int), .int .i64 (G : Int)], .tuple #[.slice (some ⟨g, 0, none⟩) (matL D L G).length c, .nilIface], .slice (some ⟨g, 0, none⟩) (matL D L G).length c, .nilIface, .nilIface, .bool false, undef, undef, .slice (some ⟨g, 0, none⟩) (matL D L G).length c, .pointer (some ⟨w.heap.size, 0, none⟩), .int .i64 (D : Int), .agg (ckA (cks D L G)), .int .u64 (S : Int), .func (.func 52) #[] #[.pointer (some ⟨w5.heap.size, 0, none⟩)], .int .i64 (x.1 : Int), undef, undef, undef, undef, undef, undef], defers := [] }) ?assign ?body ?done ?stop
  case assign =>
    intro l2 x X Kk hK
    unfold encSh
    gi_wp2
    exact hK
  case body =>
    rintro l2 pre x X ⟨hi, ⟨C, hC, hat⟩, hX⟩ hlen
    have hfit := cks_fit hD hL4 hG hC
    have htl := ckTell_any w4.heap.size x.1 C X hat hfit x.2
    have hsn : tells (cks D L G) (preL (pre ++ [x])) = tell C x.1 := by rw [preL_snoc, tells_snoc, hC]; rfl
    have HI := hide hi
    have HX := hide hX
    clear hX hlen hC hat hfit
    have ce := hi.err.cell
    have fe := hi.err.frozen
    clear hi
    gi_wp2
    refine at_round htl ?_
    clear htl
    rintro e w2 (⟨hln, rfl, hw2⟩ | ⟨C', hls, rfl, hC', hg'⟩)
    · subst hw2
      have HN0 := hide (hsn.trans hln)
      clear hsn hln
      have hes : Boxed (w2.setRow (w.heap.size + 1) (ckA ckZ)) (w.heap.size + 1 + 1) 38 .nilIface := ((grown_setRow _ _ _).block _ HI.out.err.lt (fun e => by have := Option.some.inj e; omega)).trans HI.out.err
      have ce2 := hes.cell
      have fe2 := hes.frozen
      have HES := hide hes
      clear hes
      gi_wp2_with (refine in_store rfl (.tmp 4) (.tmp 29) rfl (w.heap.size + 1) ckZ ckZ rfl rfl HI.out.res ?_)
      have hi := HI.out
      have hb2 : Below w.heap.size w (w2.setRow (w.heap.size + 1) (ckA ckZ)) := hi.below.grown (grown_setRow _ _ _) hi.below.size (fun q e => by cases e; omega)
      refine ⟨?_, rfl, HN0.out, ?_, ?_, ?_, ?_⟩
      · exact ((keeps_ckRow HI.out.res _).trans (KeepsOthers.setCell _ _ _)).from _
      · exact hb2.setCell (p := ⟨w.heap.size + 1 + 1, 0, none⟩) (by show w.heap.size ≤ w.heap.size + 1 + 1; omega) _
      · have := HX.out; simpa [World.setCell, World.setRow] using this
      · exact (hi.res.setRow ckZ).keep (Below.heap_setCell _ _ _ _ (by show w.heap.size + 1 ≠ w.heap.size + 1 + 1; omega))
      · exact HES.out.set _
    · have H2 := hide (And.intro (hsn.trans hls) (And.intro hC' hg'))
      clear hsn hls hC' hg'
      gi_wp2
      obtain ⟨q1, q2, q3⟩ := H2.out
      have hci' := HI.out.own (B := w.heap.size + 3) (Nat.le_refl _) q3 (fun r e => by cases e; obtain ⟨q1, q2, q3, q4⟩ := HZ6.out; omega)
      exact ⟨⟨q3.size, fun k o hk ho _ => (q3.block k (Array.getElem?_eq_some_iff.1 ho).1 (fun e => by cases e; omega)).trans ho⟩, fun _ => hT.mono (by omega) hci'.below, hci', ⟨C', q1, q2⟩, Nat.le_trans HX.out q3.size⟩
  case done =>
    rintro D' xs X hD' hxs ⟨hi, ⟨C, hC, hat⟩, hX⟩ hK
    rw [show preL xs = mems S from hxs] at hC
    have hDX : D' < X.heap.size := (Array.getElem?_eq_some_iff.1 hK).1
    have hes : Boxed (X.setRow (w.heap.size + 1) (ckA C)) (w.heap.size + 1 + 1) 38 .nilIface := ((grown_setRow _ _ _).block _ hi.err.lt (fun e => by have := Option.some.inj e; omega)).trans hi.err
    have ce2 := hes.cell
    have fe2 := hes.frozen
    have HI := hide (And.intro hi (And.intro hat (And.intro hX (And.intro hK (And.intro hC hes)))))
    clear hi hat hX hK hC hxs xs HI6 HC6 hes
    gi_wp2_with (first
      | refine in_load rfl (.tmp 8) rfl w4.heap.size C rfl HI.out.2.1 ?_
      | refine in_store rfl (.tmp 4) (.tmp 31) rfl (w.heap.size + 1) C ckZ rfl rfl HI.out.1.res ?_)
    obtain ⟨hi, hat, hX, hK, hC, hes⟩ := HI.out
    have hb2 : Below w.heap.size w (X.setRow (w.heap.size + 1) (ckA C)) := hi.below.grown (grown_setRow _ _ _) hi.below.size (fun q e => by cases e; omega)
    have hb3 := hb2.setCell (p := ⟨w.heap.size + 1 + 1, 0, none⟩) (by show w.heap.size ≤ w.heap.size + 1 + 1; omega) .nilIface
    have hko := (keeps_ckRow hi.res (ckA C)).trans (KeepsOthers.setCell _ ⟨w.heap.size + 1 + 1, 0, none⟩ .nilIface)
    have hK9 := hko.same D' _ hK rfl
    exact cf_end (w := w) rfl rfl rfl ((hi.res.setRow C).keep (Below.heap_setCell _ _ _ _ (by show w.heap.size + 1 ≠ w.heap.size + 1 + 1; omega))) (hes.set _) hK9 (by omega)
      ⟨Below.putObj' hb3 (by omega) (Array.getElem?_eq_some_iff.1 hK9).1 _, .inr ⟨C, hC, rfl⟩⟩
  case stop =>
    rintro D' cc pre X hD' hpre ⟨rfl, hno, hb, hX, hres, herr⟩ hK
    have hno' : tells (cks D L G) (mems S) = none := by
      obtain ⟨R, hR⟩ := hpre
      rw [← hR]
      exact tells_none_append _ _ _ hno
    have HH := hide (And.intro hb (And.intro hres (And.intro herr (And.intro hK hno'))))
    clear hb hres herr hK hno' hno
    gi_wp2
    obtain ⟨q1, q2, q3, q4, q5⟩ := HH.out
    exact cf_end (w := w) rfl rfl rfl q2 q3 q4 (by omega) ⟨Below.putObj' q1 (by omega) (Array.getElem?_eq_some_iff.1 q4).1 _, .inl ⟨q5, rfl⟩⟩
end Go.Proofs.YthhommjlomphdabDoor
