import Derived.Test.YtogdeaaphdlchaaGreatDoorPart24
/-
  resume: over an archive on which nothing is lost.
-/
namespace Go.Proofs.YtogdeaaphdlchaaGreatDoor
open Go.RowKit Go.Deep Gf

/-- what resume leaves -/
structure RsPost (w : World) (ar v p D L G ps D1 L1 G1 t1 : Nat) (off : Bool) (A : Arr) (F : Foot) (P l : List Nat) (os : List Ob) (w' : World) : Prop where
  arc : ∃ u o, ArcAt w' ar v D1 L1 G1 t1 (P.getD 0 0) l.length u o off ∧ Ints (fun k => w.heap.size ≤ k) w' u P ∧ Cat (fun k => w.heap.size ≤ k) w' o os
  arr : ∃ rs, ArrAt w' p (A.rd rs) F
  vol : VolAt w' v p D L G ps 0
  out : Outside (fun k => k = ar ∨ k = v ∨ F.has p A.n k) w w'
set_option maxRecDepth 100000 in
set_option maxHeartbeats 4000000 in
theorem resume_ok {w : World} {ar v p D L G ps D' L' G' t f nn D1 L1 G1 t1 g : Nat} {pg ob : Value} {off : Bool} {A : Arr} {F : Foot} (hA : ArcAt w ar v D' L' G' t f nn pg ob off) (hV : Vol w v p D L G ps 0 A F) (hF : Free F p A.n v) (har : ¬ F.has p A.n ar) (hf : A.fit) (hn : A.n = D + L + G) (hD1 : 1 ≤ D) (hD : D ≤ 12) (hL4 : L ≤ 4) (hG : G ≤ 4) (h16 : D + L + G ≤ 16)
    (hw : A.wait < 0) (hlost : ∀ i, A.lost i = false) (hnb : 1 < A.nb) (hbad1 : ∀ d, A.bad d 1 = false) (he1 : ∀ i, i < A.n → A.blk i 1 = Rec.filled.blk) (P l : List Nat) (hlx : ∀ x ∈ l, x < 256) (hll : l.length ≤ 1000000) (hPl : P.length = pgs D l.length) (hPn : ∀ x ∈ P, x < A.nb) (hPb : P.length ≤ A.nb) (hPm : P.length ≤ 1000000) (hbad : ∀ x ∈ P, ∀ i, A.bad i x = false)
    (hblk : ∀ k, k < P.length → ∀ i, i < A.n → A.blk i (P.getD k 0) = (Rec.shard ((stripeL D L G (pageB D P l k)).getD i [])).blk) (os : List Ob) (hU : UnpackOk D l os) (htk : (tk A.nb (P ++ allSt os)).2 = true) (hvar : v ≠ ar) (hvK : 3 ≤ v) (harK : 3 ≤ ar) (hok : (Rec.root D1 L1 G1 t1 (P.getD 0 0) l.length).ok)
    (hrow : w.rowIs g 125 A.n (fun _ => recV (.root D1 L1 G1 t1 (P.getD 0 0) l.length))) (hng : ¬ F.has p A.n g) (hgv : g ≠ v) (hga : g ≠ ar) :
    Calls Tryz.prog 32 #[.pointer (some ⟨ar, 0, none⟩), .agg (rootA D1 L1 G1 t1 (P.getD 0 0) l.length), .slice (some ⟨g, 0, none⟩) A.n A.n] w fun e w' => e = .returned .nilIface ∧ RsPost w ar v p D L G ps D1 L1 G1 t1 off A F P l os w' := by
  have hFl : ∀ k, F.has p A.n k → k < w.heap.size := fun k hk => hV.arr.has_lt hk
  have harl := hA.lt
  have hvl := hV.vol.lt
  have hgl := hrow.lt
  obtain ⟨n1, hn1⟩ : ∃ n1, l.length = n1 := ⟨_, rfl⟩
  obtain ⟨f1, hf1⟩ : ∃ f1, P.getD 0 0 = f1 := ⟨_, rfl⟩
  rw [hn1, hf1] at hok hrow ⊢
  have hbx : (w.alloc (.cells (rootA D1 L1 G1 t1 f1 n1) 63)).heap[w.heap.size]? = some (.cells (rootA D1 L1 G1 t1 f1 n1) 63 (0, 0)) := blk_alloc_new _ _
  have hb1 : Below w.heap.size w (w.alloc (.cells (rootA D1 L1 G1 t1 f1 n1) 63)) := (Below.refl _ w).alloc (Nat.le_refl _) _
  have hz1 : (w.alloc (.cells (rootA D1 L1 G1 t1 f1 n1) 63)).heap.size = w.heap.size + 1 := by simp
  obtain ⟨w1, hw1⟩ : ∃ w1, w.alloc (.cells (rootA D1 L1 G1 t1 f1 n1) 63) = w1 := ⟨_, rfl⟩
  rw [hw1] at hbx hb1 hz1
  have hA1 := hA.keep (hb1.block _ hA.lt)
  have hV1 := hV.below hb1 (Nat.le_refl _)
  have hrow1 := hrow.of_block (hb1.block _ hgl)
  have H1 := hide (And.intro hA1 (And.intro hV1 (And.intro hbx (And.intro hb1 (And.intro hz1 hrow1)))))
  have hw1' : w.alloc (.cells #[.int .i64 D1, .int .i64 L1, .int .i64 G1, .int .u64 t1, .int .i64 f1, .int .i64 n1] 63) = w1 := hw1
  have HN := hide (And.intro hn1 (And.intro hPl (And.intro hf1 hn)))
  obtain ⟨NN, hNN⟩ : ∃ NN, A.n = NN := ⟨_, rfl⟩
  have HNN := hide hNN
  rw [hNN]
  clear hA hV hbx hb1 hA1 hV1 hz1 hw1 hn1 hf1 hrow hrow1 hn hNN hPl
  show Calls Tryz.prog 32 #[.pointer (some ⟨ar, 0, none⟩), .agg #[.int .i64 D1, .int .i64 L1, .int .i64 G1, .int .u64 t1, .int .i64 f1, .int .i64 n1], .slice (some ⟨g, 0, none⟩) NN NN] w _
  go_enter Tryz.func32, Tryz.ntmps32
  go_wp2_with fail
  obtain ⟨hA1, hV1, hbx, hb1, hz1, hrow1⟩ := H1.out
  obtain ⟨hn1, hPl, hf1, hn⟩ := HN.out
  refine resume_region1 hV1 hF har hvar hA1 rfl hf hn hD hL4 hG hnb (by omega) hlost hbad1 he1 hvK (by kernel_rfl) rfl rfl ?_
  intro w2 vs hvs hA2 hO2 hV2
  obtain ⟨x0, x1, x2, x3, x4, x5, x6, x7, x8, x9, xa, xb, rfl⟩ := list12 hvs
  have hz2 := hO2.size
  have hA2a := hA1.keep (hO2.block _ hA1.lt (fun q => q.elim (fun e => hvar e.symm) har))
  have hbx2 := (hO2.block _ (by omega) (fun q => q.elim (fun e => by omega) (fun q => by have := hFl _ q; omega))).trans hbx
  have hrow2 := hrow1.of_block (hO2.block _ (by omega) (fun q => q.elim hgv hng))
  have hV2v : Vol w2 v p D L G ps 0 (A.readTo A.n) F := ⟨hV2, hA2, hV1.laid.keep (hO2.block _ hV1.laid.lt (fun q => q.elim (fun e => by have h9 : 2 < 3 := (by decide); omega) hF.g)), hV1.tab.keep (hO2.block _ hV1.tab.lt (fun q => q.elim (fun e => by have h9 : 1 < 3 := (by decide); omega) hF.t)), Nat.le_trans hV1.room hz2⟩
  have hlc := loadCatalog_ok (D1 := D1) (L1 := L1) (G1 := G1) (t1 := t1) hA2a hV2v hF har (hf.readTo _) hn hD1 hD hL4 hG h16 (by show A.wait ≠ 0; omega) hlost P l hlx hll hPl hPn hPb hPm hbad hblk os hU htk hvar
  rw [hn1, hf1] at hlc
  have hO02 : Outside (fun k => k = ar ∨ k = v ∨ F.has p A.n k) w w2 := (Outside.of_all hb1 _).trans (hO2.mono fun _ _ q => .inr q)
  have H2 := hide (And.intro hlc (And.intro hbx2 (And.intro hrow2 (And.intro hV2v hO02))))
  clear hA1 hV1 hbx hb1 hrow1 hn1 hPl hf1 hn hA2 hO2 hV2 hA2a hbx2 hrow2 hV2v hlc hO02 hvs
  rename_i hKK
  refine hKK _ _ ?_
  clear hKK
  simp only [Act.putFrom, Act.put, List.setIfInBounds_toArray, List.set_cons_succ, List.set_cons_zero]
  go_wp2_with (show wpList _ _ _ ({ dst := some 21, op := _, type := _, pos := _, after := _, guard := _ } :: _) _ _; refine rt_load (D := D1) (L := L1) (G := G1) (t := t1) (f := f1) (n := n1) (b := w.heap.size) rfl (.tmp 4) rfl rfl (by rfl) (by exact H2.out.2.1) ?_)
  refine H2.out.1.mono ?_
  rintro e w3 ⟨rfl, u, o, hp3⟩
  obtain ⟨hx, hbx2, hrow2, hV2v, hO02⟩ := H2.out
  clear hx
  obtain ⟨rs, harr3⟩ := hp3.arr
  have hz3 := hp3.out.size
  have hO3 : ∀ k, k < w2.heap.size → k ≠ ar → ¬ F.has p A.n k → w3.heap[k]? = w2.heap[k]? := fun k hk h1 h2 => hp3.out.block k hk (fun q => q.elim h1 h2)
  have hbx3 := (hO3 _ (by omega) (by omega) (fun q => by have := hFl _ q; omega)).trans hbx2
  have hrow3 := hrow2.of_block (hO3 g (by omega) hga hng)
  have hV3 : Vol w3 v p D L G ps 0 ((A.readTo A.n).rd rs) F := ⟨hV2v.vol.keep (hO3 _ (by omega) hvar hF.v), harr3, hV2v.laid.keep (hO3 _ hV2v.laid.lt (fun e => by have h9 : 2 < 3 := (by decide); omega) hF.g), hV2v.tab.keep (hO3 _ hV2v.tab.lt (fun e => by have h9 : 1 < 3 := (by decide); omega) hF.t), Nat.le_trans hV2v.room hz3⟩
  have hO03 : Outside (fun k => k = ar ∨ k = v ∨ F.has p A.n k) w w3 := hO02.trans (hp3.out.mono fun _ _ q => q.elim .inl (fun q => .inr (.inr q)))
  have H3 := hide (And.intro hp3 (And.intro hbx3 (And.intro hrow3 (And.intro hV3 hO03))))
  clear hbx2 hrow2 hV2v hO02 harr3 hO3 hbx3 hrow3 hV3 hO03 hp3
  go_wp2_with fail
  obtain ⟨hp3, hbx3, hrow3, hV3, hO03⟩ := H3.out
  refine resume_region5 (A := (A.readTo A.n).rd rs) hV3 hF har hp3.arc rfl ⟨hf.n, hf.nb, hf.len, hf.byt⟩ (by show A.n ≤ 20; have := HN.out.2.2.2; omega) (by show 0 < A.nb; omega) hw hok hbx3 (fun q => by have := hFl _ q; omega) hrow3 hng (by kernel_rfl) rfl rfl (by rw [← HNN.out]; rfl) rfl ?_
  intro w4 hA4 hO4
  have hz4 := hO4.size
  have H4 := hide (And.intro hA4 hO4)
  clear hp3 hbx3 hrow3 hV3 hO03 hA4 hO4
  rename_i hKK
  refine hKK _ _ ?_
  clear hKK
  simp only [Act.putFrom, Act.put, List.setIfInBounds_toArray, List.set_cons_succ, List.set_cons_zero]
  go_wp2
  go_ret
  obtain ⟨hp3, hbx3, hrow3, hV3, hO03⟩ := H3.out
  obtain ⟨hA4, hO4⟩ := H4.out
  refine ⟨rfl, ⟨u, o, ?_, ?_, ?_⟩, ⟨_, hA4⟩, hV3.vol.keep (hO4.block _ hV3.vol.lt hF.v), hO03.trans (hO4.mono fun _ _ q => .inr (.inr q))⟩
  · exact hp3.arc.keep (hO4.block _ hp3.arc.lt har)
  · exact (hp3.pg.weaken fun k hk => by omega).keep ⟨hz4, fun k hk hk2 => hO4.block k hk (fun q => by have := hFl k q; omega)⟩
  · exact (hp3.cat.weaken fun k hk => by omega).keep ⟨hz4, fun k hk hk2 => hO4.block k hk (fun q => by have := hFl k q; omega)⟩
end Go.Proofs.YtogdeaaphdlchaaGreatDoor
/-
  load: over an archive of the same params, on which nothing is lost.
-/
namespace Go.Proofs.YtogdeaaphdlchaaGreatDoor
open Go.RowKit Go.Deep Gf

set_option maxRecDepth 100000 in
set_option maxHeartbeats 4000000 in
theorem load_same {w : World} {ar v p D L G ps t : Nat} {A : Arr} {F : Foot} (ha : ArcAt w ar v 0 0 0 0 0 0 (.slice none 0 0) (.slice none 0 0) false) (hV : Vol w v p D L G ps 0 A F) (hF : Free F p A.n v) (har : ¬ F.has p A.n ar) (hf : A.fit) (hn : A.n = D + L + G) (hD1 : 1 ≤ D) (hD : D ≤ 12) (hL4 : L ≤ 4) (hG : G ≤ 4) (h16 : D + L + G ≤ 16)
    (hnb : 3 ≤ A.nb) (hw : A.wait < 0) (hlost : ∀ i, A.lost i = false) (hbad0 : ∀ d, A.bad d 0 = false) (hbad1 : ∀ d, A.bad d 1 = false) (he1 : ∀ i, i < A.n → A.blk i 1 = Rec.filled.blk) (P l : List Nat) (hlx : ∀ x ∈ l, x < 256) (hll : l.length ≤ 1000000) (hPl : P.length = pgs D l.length) (hPn : ∀ x ∈ P, x < A.nb) (hPb : P.length ≤ A.nb) (hPm : P.length ≤ 1000000) (hbad : ∀ x ∈ P, ∀ i, A.bad i x = false)
    (hblk : ∀ k, k < P.length → ∀ i, i < A.n → A.blk i (P.getD k 0) = (Rec.shard ((stripeL D L G (pageB D P l k)).getD i [])).blk) (os : List Ob) (hU : UnpackOk D l os) (htk : (tk A.nb (P ++ allSt os)).2 = true) (hvar : v ≠ ar) (hvK : 3 ≤ v) (harK : 3 ≤ ar) (hok : (Rec.root D L G t (P.getD 0 0) l.length).ok) (ht : 0 < t) (hz : ∀ i, i < A.n → A.blk i 0 = (Rec.root D L G t (P.getD 0 0) l.length).blk) :
    Calls Tryz.prog 20 #[.pointer (some ⟨ar, 0, none⟩)] w fun e w' => e = .returned .nilIface ∧ RsPost w ar v p D L G ps D L G t false A F P l os w' := by
  obtain ⟨c0, _⟩ := ha.cells
  have hFl : ∀ k, F.has p A.n k → k < w.heap.size := fun k hk => hV.arr.has_lt hk
  have harl := ha.lt
  have hvl := hV.vol.lt
  obtain ⟨m, hm⟩ : ∃ m, l.length = m := ⟨_, rfl⟩
  obtain ⟨f, hf1⟩ : ∃ f, P.getD 0 0 = f := ⟨_, rfl⟩
  have HOK := hide hok
  rw [hm, hf1] at hok hz
  have hrc := readCopies_ok hV hF hf 0 hn hD hL4 hG (by omega) (by omega) hlost hbad0 (fun _ => .root D L G t f m) (fun _ => hok) (fun _ => makes_root hok) hz
  have HM := hide (And.intro hm (And.intro hf1 hPl))
  clear hm hf1 hPl
  go_enter Tryz.func20, Tryz.ntmps20
  go_wp2_with fail
  refine hrc.mono ?_
  rintro e w1 ⟨g, rfl, hg, hrow, hA1, hO1⟩
  have ha1 := ha.keep (hO1.block _ ha.lt har)
  have hV1 := hV.turn hF hO1 hA1
  have hN16 : A.n ≤ 20 := by omega
  obtain ⟨N, hN⟩ : ∃ N, A.n = N := ⟨_, rfl⟩
  have hlr := lastRoot_any (N := A.n) (fun _ => some (.root D L G t f m)) (by omega) (w := w1) hrow
  rw [show A.n = (A.n - 1) + 1 by omega, svLast_root ht (A.n - 1) (fun _ _ => rfl), show A.n - 1 + 1 = A.n by omega, show rtA ⟨D, L, G, t, f, m⟩ = rootA D L G t f m from rfl, hN] at hlr
  have H1 := hide (And.intro ha1 (And.intro hV1 (And.intro hO1 (And.intro hrow (And.intro hlr (And.intro hN hn))))))
  rw [hN] at hN16
  clear ha1 hV1 hO1 hrow hlr hA1 hrc hn
  rw [hN]
  clear hN
  go_wp2_with fail
  refine H1.out.2.2.2.2.1.mono ?_
  rintro e w2 ⟨rfl, hb2⟩
  have hzw := root_zero
  obtain ⟨ha1, hV1, hO1, hrow, hxx, hN, hn⟩ := H1.out
  clear hxx
  have hb3 : Below w1.heap.size w1 (rootVar w2 D L G t f m) := hb2.trans ((rootVar_below w2 D L G t f m).mono hb2.size)
  have ha3 := ha1.keep (hb3.block _ ha1.lt)
  have hV3 := hV1.below hb3 (Nat.le_refl _)
  have hr3 := rootVar_at w2 D L G t f m
  have hrow3 := hrow.of_block (hb3.block g hrow.lt)
  obtain ⟨w3, hw3⟩ : ∃ w3, rootVar w2 D L G t f m = w3 := ⟨_, rfl⟩
  rw [hw3] at hb3 ha3 hV3 hr3 hrow3
  have hO3 : Outside (F.has p A.n) w w3 := hO1.trans (Outside.of_all hb3 _)
  have H3 := hide (And.intro ha3 (And.intro hV3 (And.intro hr3 (And.intro hO3 (And.intro hrow3 hw3)))))
  clear ha1 hV1 hO1 hrow hb2 hb3 ha3 hV3 hr3 hO3 hw3 c0 hrow3 hN hn
  go_wp2_with (show wpList _ _ _ ({ dst := none, op := Op.store 63 (.tmp 4) (.tmp 11), type := _, pos := _, after := _, guard := _ } :: _) _ _; refine rt_new (w := w2) (D := D) (L := L) (G := G) (t := t) (f := f) (n := m) rfl (.tmp 4) (.tmp 11) rfl (by rfl) (by rfl) ?_; rw [H3.out.2.2.2.2.2])
  obtain ⟨ha3, hV3, hr3, hO3, hrow3, hw3⟩ := H3.out
  clear hw3
  refine load_region hV3.vol ha3 rfl hr3 ht (by kernel_rfl) rfl rfl rfl ?_
  intro w4 hb4
  rw [decide_eq_true (⟨rfl, rfl, rfl⟩ : (D : Int) = D ∧ (L : Int) = L ∧ (G : Int) = G)]
  have ha4 := ha3.keep (hb4.block _ ha3.lt)
  have hV4 := hV3.below hb4 (Nat.le_refl _)
  have hr4 := (hb4.block _ (Array.getElem?_eq_some_iff.1 hr3).1).trans hr3
  have hrow4 := hrow3.of_block (hb4.block _ hrow3.lt)
  have hO4 : Outside (F.has p A.n) w w4 := hO3.trans (Outside.of_all hb4 _)
  have c4 : w4.cell? ⟨w2.heap.size, 3, none⟩ = some (.int .u64 t) := by simp [World.cell?, hr4, rootA]
  have hgt : decide ((t : Int) > 0) = true := decide_eq_true (by omega)
  have hgF : ¬ F.has p A.n g := fun q => by have := hFl _ q; omega
  obtain ⟨hm, hf1, hPl⟩ := HM.out
  have hrs := resume_ok (t1 := t) (D1 := D) (L1 := L) (G1 := G) (A := A.readTo A.n) (g := g) ha4 hV4 hF har (hf.readTo _) H1.out.2.2.2.2.2.2 hD1 hD hL4 hG h16 hw hlost (by show 1 < A.nb; omega) hbad1 he1 P l hlx hll hPl hPn hPb hPm hbad hblk os hU htk hvar hvK harK HOK.out (by rw [hm, hf1]; exact hrow4) hgF (by omega) (by omega)
  rw [hm, hf1, show (A.readTo A.n).n = A.n from rfl, H1.out.2.2.2.2.2.1] at hrs
  have H4 := hide (And.intro hrs (And.intro hr4 hO4))
  clear ha3 hV3 hr3 hO3 hrow3 hb4 ha4 hV4 hr4 hrow4 hO4 hrs hm hf1 hPl
  rename_i hKK
  refine hKK _ _ ?_
  clear hKK
  simp only [Act.putFrom, Act.put, List.setIfInBounds_toArray, List.set_cons_succ, List.set_cons_zero, Bool.not_true]
  go_wp2_with (show wpList _ _ _ ({ dst := some 32, op := _, type := _, pos := _, after := _, guard := _ } :: _) _ _; refine rt_load (D := D) (L := L) (G := G) (t := t) (f := f) (n := m) (b := w2.heap.size) rfl (.tmp 4) rfl rfl (by rfl) (by exact H4.out.2.1) ?_)
  refine H4.out.1.mono ?_
  rintro e w5 ⟨rfl, hp5⟩
  have H5 := hide hp5
  clear hp5
  go_wp2
  go_ret
  obtain ⟨hx, hr4, hO4⟩ := H4.out
  have hp5 := H5.out
  have hz4 := hO4.size
  obtain ⟨u, o, q1, q2, q3⟩ := hp5.arc
  refine ⟨rfl, ⟨u, o, q1, q2.weaken fun k hk => by omega, q3.weaken fun k hk => by omega⟩, ?_, hp5.vol, (hO4.mono fun _ _ q => .inr (.inr q)).trans hp5.out⟩
  obtain ⟨rs, hrs⟩ := hp5.arr
  exact ⟨rs, hrs⟩
end Go.Proofs.YtogdeaaphdlchaaGreatDoor
/-
  archive.Open: of an array that is new.
-/
namespace Go.Proofs.YtogdeaaphdlchaaGreatDoor
open Go.RowKit Go.Deep Gf

noncomputable def ROn : Array Oper := ((Tryz.f11.body.bind (rgf · 6))).getD #[]
def shOn : List (Op × Option Nat × List Nat) := [(Op.move (Operand.tmp 0), some 24, []),
    (Op.call { callee := Callee.value (Operand.func 15), args := #[Operand.tmp 24], argTypes := #[25] }, some 25, [0]),
    (Op.load 23 (Operand.tmp 4), some 26, []),
    (Op.call { callee := Callee.value (Operand.func 16), args := #[Operand.tmp 26], argTypes := #[23] }, some 27, [2, 1]),
    (Op.binOp BinOp.neq 3 (Operand.tmp 25) (Operand.tmp 27) 3, some 28, [1, 3]),
    (Op.assign (Operand.tmp 28), some 21, [4, 3])]
theorem ROn_shape : RegShape ROn 21 29 shOn := regShape (by kernel_rfl) (by kernel_rfl)
def vsOn (p n : Nat) (D L G : Nat) : List Value := [.pointer (some ⟨p, 0, none⟩), .int .i64 n, .agg #[.int .i64 D, .int .i64 L, .int .i64 G], .int .i64 ((D + L + G : Nat) : Int), .bool (!decide (n = D + L + G)), .bool (!decide (n = D + L + G))]
set_option maxRecDepth 100000 in
set_option maxHeartbeats 1000000 in
theorem open_region {ops : Array Oper} {Q : Exit → Act → World → Prop} {a : Act} {w : World} {p q D L G : Nat} {A : Arr} {F : Foot} (hops : ROn = ops) (h : ArrAt w p A F) (hf : A.fit) (hq : w.heap[q]? = some (.cells #[.int .i64 (D : Int), .int .i64 (L : Int), .int .i64 (G : Int)] 23 (0, 0))) (hD : D ≤ 12) (hL : L ≤ 4) (hG : G ≤ 4) (hsz : a.tmps.size = 48)
    (e0 : a.eval (.tmp 0) = .pointer (some ⟨p, 0, none⟩)) (e4 : a.eval (.tmp 4) = .pointer (some ⟨q, 0, none⟩))
    (hQ : ∀ (w' : World), Below w.heap.size w w' → Q .normal (Act.putFrom a 21 [.bool (!decide (A.n = D + L + G)), a.eval (.tmp 22), a.eval (.tmp 23), .pointer (some ⟨p, 0, none⟩), .int .i64 A.n, .agg #[.int .i64 D, .int .i64 L, .int .i64 G], .int .i64 ((D + L + G : Nat) : Int), .bool (!decide (A.n = D + L + G))]) w') : (Code.region 6 ops true).wp Tryz.prog Q a w := by
  subst hops
  have hql : q < w.heap.size := (Array.getElem?_eq_some_iff.1 hq).1
  have hn1 := hf.n
  refine region_factsS (by kernel_rfl) ROn_shape a w (by omega) (fun i u _ => u = (vsOn p A.n D L G).getD i undef) (fun _ w' => Below w.heap.size w w') ((Below.refl _ w).drew) ?_ ?_
  · intro i hi
    match i, hi with
    | 0, _ => exact fun o a' w' Dn hg ho hdst hk hDi hcl hdep hB hV => op_val (run_op_move ho ((hk.slot 0 (by omega)).trans e0) w') hdst ⟨hB, rfl, fun _ _ _ q => q⟩
    | 1, _ =>
      intro o a' w' Dn hg ho hdst hk hDi hcl hdep hB hV
      have u0 : a'.eval (.tmp 24) = .pointer (some ⟨p, 0, none⟩) := hV 0 (hdep 0 (by decide))
      refine op_call (f := 15) (args := #[.pointer (some ⟨p, 0, none⟩)]) (w1 := w') (by simp only [execOp, show o.op = Op.call { callee := Callee.value (Operand.func 15), args := #[Operand.tmp 24], argTypes := #[25] } from ho]; go_simp; simpa [Act.eval] using u0) hdst (drives_any (h.below hB (Nat.le_refl _))) ?_
      rintro e w'' ⟨rfl, rfl⟩
      exact ⟨_, rfl, hB, rfl, fun _ _ _ q => q⟩
    | 2, _ =>
      intro o a' w' Dn hg ho hdst hk hDi hcl hdep hB hV
      have u0 : a'.eval (.tmp 4) = .pointer (some ⟨q, 0, none⟩) := (hk.slot 4 (by omega)).trans e4
      have hq' : w'.heap[q]? = _ := (hB.block q hql).trans hq
      have hld : (Instr.loadAt 23 (.pointer (some ⟨q, 0, none⟩))).run Tryz.prog w' = .ok (.agg #[.int .i64 (D : Int), .int .i64 (L : Int), .int .i64 (G : Int)]) w' := by
        simp only [Instr.loadAt, Instr.sureAddr, Sem.run_bind, Sem.run_pure, Result.andThen_ok, run_loadVar_row w' q 23 23 #[.int .i64 (D : Int), .int .i64 (L : Int), .int .i64 (G : Int)] (0, 0) _ hq' Tryz.underlying23 rfl (by kernel_rfl)]
      exact op_val (v := .agg #[.int .i64 D, .int .i64 L, .int .i64 G]) (by simp [execOp, show o.op = Op.load 23 (.tmp 4) from ho, u0, hld]) hdst ⟨hB, rfl, fun _ _ _ q => q⟩
    | 3, _ =>
      intro o a' w' Dn hg ho hdst hk hDi hcl hdep hB hV
      have u0 : a'.eval (.tmp 26) = .agg #[.int .i64 D, .int .i64 L, .int .i64 G] := hV 2 (hdep 2 (by decide))
      refine op_call (f := 16) (args := #[.agg #[.int .i64 D, .int .i64 L, .int .i64 G]]) (w1 := w') (by simp only [execOp, show o.op = Op.call { callee := Callee.value (Operand.func 16), args := #[Operand.tmp 26], argTypes := #[23] } from ho]; go_simp; simpa [Act.eval] using u0) hdst (shards_any (D : Int) (L : Int) (G : Int) w' ⟨by omega, by omega⟩ ⟨by omega, by omega⟩ ⟨by omega, by omega⟩) ?_
      rintro e w'' ⟨rfl, hb⟩
      exact ⟨_, rfl, hB.trans (hb.mono hB.size), by show Value.int .i64 ((D : Int) + L + G) = .int .i64 ((D + L + G : Nat) : Int); congr 1, fun _ _ _ q => q⟩
    | 4, _ =>
      intro o a' w' Dn hg ho hdst hk hDi hcl hdep hB hV
      have u0 : a'.eval (.tmp 25) = .int .i64 (A.n : Nat) := hV 1 (hdep 1 (by decide))
      have u1 : a'.eval (.tmp 27) = .int .i64 ((D + L + G : Nat) : Int) := hV 3 (hdep 3 (by decide))
      refine op_val (v := .bool (!decide (A.n = D + L + G))) ?_ hdst ⟨hB, rfl, fun _ _ _ q => q⟩
      simp only [execOp, show o.op = Op.binOp BinOp.neq 3 (Operand.tmp 25) (Operand.tmp 27) 3 from ho, u0, u1]
      by_cases e : A.n = D + L + G
      · rw [e]; go_simp
      · have e' : ¬ ((A.n : Nat) : Int) = ((D + L + G : Nat) : Int) := by omega
        rw [decide_eq_false e]
        generalize ((D + L + G : Nat) : Int) = q at *
        go_simp
    | 5, _ =>
      intro o a' w' Dn hg ho hdst hk hDi hcl hdep hB hV
      have u0 : a'.eval (.tmp 28) = .bool (!decide (A.n = D + L + G)) := hV 4 (hdep 4 (by decide))
      exact op_val (v := .bool (!decide (A.n = D + L + G))) (by simp [execOp, show o.op = Op.assign (.tmp 28) from ho, u0]) hdst ⟨hB, rfl, fun _ _ _ q => q⟩
    | n + 6, hn => exact absurd hn (by show ¬ n + 6 < 6; omega)
  · rintro a' w' hk' hsame ⟨Dn, hD', hB⟩ hV
    have e : a' = Act.putFrom a 21 [.bool (!decide (A.n = D + L + G)), a.eval (.tmp 22), a.eval (.tmp 23), .pointer (some ⟨p, 0, none⟩), .int .i64 A.n, .agg #[.int .i64 D, .int .i64 L, .int .i64 G], .int .i64 ((D + L + G : Nat) : Int), .bool (!decide (A.n = D + L + G))] := hk'.out _ rfl (by omega) (fun i hi => ?_)
    · rw [e]; exact hQ w' hB
    · match i, hi with
      | 0, _ => exact hV 5 (by decide)
      | 1, _ => exact hsame 22 (by decide)
      | 2, _ => exact hsame 23 (by decide)
      | 3, _ => exact hV 0 (by decide)
      | 4, _ => exact hV 1 (by decide)
      | 5, _ => exact hV 2 (by decide)
      | 6, _ => exact hV 3 (by decide)
      | 7, _ => exact hV 4 (by decide)
      | n + 8, hn => exact absurd hn (by simp)
/-- an archive without objects, over its array -/
structure NewArc (w w' : World) (p D L G ar v ps : Nat) (u : Value) (A : Arr) (F : Foot) : Prop where
  arGe : w.heap.size ≤ ar
  vGe : w.heap.size ≤ v
  arc : ArcAt w' ar v D L G 1 2 0 u (.slice none 0 0) false
  pg : Ints (fun k => w.heap.size ≤ k) w' u [2]
  vol : Vol w' v p D L G ps 0 (newArc (A.readTo A.n) D L G) F
  out : Outside (F.has p A.n) w w'
set_option maxRecDepth 100000 in
set_option maxHeartbeats 2000000 in
theorem open_new {w : World} {p D L G : Nat} {cache : Int} {A : Arr} {F : Foot} (h : ArrAt w p A F) (hf : A.fit) (hn : A.n = D + L + G) (hr : rightB D L G = true) (hD1 : 1 ≤ D) (hD : D ≤ 12) (hL : 1 ≤ L) (hL4 : L ≤ 4) (hG : G ≤ 4) (hdiv : D % L = 0) (h16 : D + L + G ≤ 16) (hc0 : 0 ≤ cache) (hc1 : cache ≤ 64)
    (hnb : 8 ≤ A.nb) (hw : A.wait < 0) (hlost : ∀ i, A.lost i = false) (hbad : ∀ d, A.bad d 0 = false) (hz : ∀ i, i < A.n → A.blk i 0 = zb) (hv : hvLaid w) (ht : tabLaid w) (hK : 3 ≤ w.heap.size) (hFg : ¬ F.has p A.n 2) (hFt : ¬ F.has p A.n 1) :
    Calls Tryz.prog 11 #[.pointer (some ⟨p, 0, none⟩), .agg #[.int .i64 D, .int .i64 L, .int .i64 G], .agg #[.int .i64 cache]] w fun e w' => ∃ ar v ps u, e = .returned (.tuple #[.pointer (some ⟨ar, 0, none⟩), .nilIface]) ∧ NewArc w w' p D L G ar v ps u A F := by
  have hmf : ∀ (fn : Fn) (first cap : Array Value) (w : World), (Instr.makeFunc fn first cap).run Tryz.prog w = .ok (.func fn first cap) w := fun _ _ _ _ => rfl
  have hcf : ∀ (args : Array Value) (w : World), (callFunc 20 args).run Tryz.prog w = .ok (.enter 20 args) w := enters_of Tryz.func20 (by kernel_rfl) rfl
  have hq : ((w.alloc (.cells #[.int .i64 (D : Int), .int .i64 (L : Int), .int .i64 (G : Int)] 23)).alloc (.cells #[.int .i64 cache] 33)).heap[w.heap.size]? = some (.cells #[.int .i64 (D : Int), .int .i64 (L : Int), .int .i64 (G : Int)] 23 (0, 0)) := (blk_alloc_lt _ _ _ (by simp)).trans (blk_alloc_new _ _)
  have ho : ((w.alloc (.cells #[.int .i64 (D : Int), .int .i64 (L : Int), .int .i64 (G : Int)] 23)).alloc (.cells #[.int .i64 cache] 33)).heap[w.heap.size + 1]? = some (.cells #[.int .i64 cache] 33 (0, 0)) := by
    have := blk_alloc_new (w.alloc (.cells #[.int .i64 (D : Int), .int .i64 (L : Int), .int .i64 (G : Int)] 23)) (.cells #[.int .i64 cache] 33)
    rwa [World.size_alloc] at this
  have hb2 : Below w.heap.size w ((w.alloc (.cells #[.int .i64 (D : Int), .int .i64 (L : Int), .int .i64 (G : Int)] 23)).alloc (.cells #[.int .i64 cache] 33)) := ((Below.refl _ w).alloc (Nat.le_refl _) _).alloc (by simp) _
  have hz2 : ((w.alloc (.cells #[.int .i64 (D : Int), .int .i64 (L : Int), .int .i64 (G : Int)] 23)).alloc (.cells #[.int .i64 cache] 33)).heap.size = w.heap.size + 2 := by simp
  obtain ⟨w2, hw2⟩ : ∃ w2, (w.alloc (.cells #[.int .i64 (D : Int), .int .i64 (L : Int), .int .i64 (G : Int)] 23)).alloc (.cells #[.int .i64 cache] 33) = w2 := ⟨_, rfl⟩
  rw [hw2] at hq ho hb2 hz2
  have p0 : w2.cell? ⟨w.heap.size, 0, none⟩ = some (.int .i64 D) := by simp [World.cell?, hq]
  have p1 : w2.cell? ⟨w.heap.size, 1, none⟩ = some (.int .i64 L) := by simp [World.cell?, hq]
  have p2 : w2.cell? ⟨w.heap.size, 2, none⟩ = some (.int .i64 G) := by simp [World.cell?, hq]
  have H2 := hide (And.intro hq (And.intro ho (And.intro hb2 hz2)))
  clear hq ho hb2 hz2
  go_enter Tryz.func11, Tryz.ntmps11
  go_wp2_with fail
  refine (right_any D L G _).mono ?_
  rw [hr]
  rintro e w3 ⟨rfl, hb3⟩
  obtain ⟨hq, ho, hb2, hz2⟩ := H2.out
  have hq3 := (hb3.block _ (by omega)).trans hq
  have ho3 := (hb3.block _ (by omega)).trans ho
  have hb03 : Below w.heap.size w w3 := hb2.trans (hb3.mono hb2.size)
  have hz3 := hb3.size
  have o0 : w3.cell? ⟨w.heap.size + 1, 0, none⟩ = some (.int .i64 cache) := by simp [World.cell?, ho3]
  have H3 := hide (And.intro hq3 (And.intro ho3 (And.intro hb03 (show w.heap.size + 2 ≤ w3.heap.size by omega))))
  clear hq ho hb2 hz2 hq3 ho3 hb03 hb3 hz3 p0 p1 p2
  go_wp2_with fail
  refine open_region (by kernel_rfl) (h.below H3.out.2.2.1 (Nat.le_refl _)) hf H3.out.1 hD hL4 hG rfl rfl rfl ?_
  intro w4 hb4
  rw [decide_eq_true hn]
  obtain ⟨hq3, ho3, hb03, hz3⟩ := H3.out
  have hq4 := (hb4.block _ (by omega)).trans hq3
  have ho4 := (hb4.block _ (by omega)).trans ho3
  have hb04 : Below w.heap.size w w4 := hb03.trans (hb4.mono hb03.size)
  have hz4 := hb4.size
  have hbk := blocks_any (h.below hb04 (Nat.le_refl _)) (by omega)
  have hnb' : ¬ ((A.nb : Nat) : Int) < 8 := by omega
  have q0 : w4.cell? ⟨w.heap.size, 0, none⟩ = some (.int .i64 D) := by simp [World.cell?, hq4]
  have q1 : w4.cell? ⟨w.heap.size, 1, none⟩ = some (.int .i64 L) := by simp [World.cell?, hq4]
  have q2 : w4.cell? ⟨w.heap.size, 2, none⟩ = some (.int .i64 G) := by simp [World.cell?, hq4]
  have o4 : w4.cell? ⟨w.heap.size + 1, 0, none⟩ = some (.int .i64 cache) := by simp [World.cell?, ho4]
  have H4 := hide (And.intro hb04 (And.intro hbk (show w.heap.size + 2 ≤ w4.heap.size by omega)))
  clear hq3 ho3 hb03 hz3 hq4 ho4 hb04 hz4 hbk hb4 o0
  rename_i hKK
  refine hKK _ _ ?_
  clear hKK
  simp only [Act.putFrom, Act.put, List.setIfInBounds_toArray, List.set_cons_succ, List.set_cons_zero]
  obtain ⟨NB, hNB⟩ : ∃ NB, A.nb = NB := ⟨_, rfl⟩
  rw [hNB] at H4 hnb'
  have HNB := hide hNB
  clear hNB
  go_wp2_with fail
  refine H4.out.2.1.mono ?_
  rintro e w5 ⟨rfl, hw5⟩
  subst hw5
  go_wp2_with fail
  refine (volNew_any p D L G cache w5).mono ?_
  rintro e w6 ⟨v, ps, rfl, hvge, hV6, hb6⟩
  obtain ⟨hb05, _, hz5⟩ := H4.out
  have hb06 : Below w.heap.size w w6 := hb05.trans (hb6.mono hb05.size)
  have hz6 := hb6.size
  have hbA : Below w6.heap.size w6 (w6.alloc (.cells (arcA v 0 0 0 0 0 0 (.slice none 0 0) (.slice none 0 0) false) 68)) := (Below.refl _ w6).alloc (Nat.le_refl _) _
  have haA : ArcAt (w6.alloc (.cells (arcA v 0 0 0 0 0 0 (.slice none 0 0) (.slice none 0 0) false) 68)) w6.heap.size v 0 0 0 0 0 0 (.slice none 0 0) (.slice none 0 0) false := blk_alloc_new _ _
  obtain ⟨w7, hw7⟩ : ∃ w7, w6.alloc (.cells (arcA v 0 0 0 0 0 0 (.slice none 0 0) (.slice none 0 0) false) 68) = w7 := ⟨_, rfl⟩
  rw [hw7] at hbA haA
  have hb07 : Below w.heap.size w w7 := hb06.trans (hbA.mono hb06.size)
  have hV7 : Vol w7 v p D L G ps 0 A F := ⟨hV6.keep (hbA.block _ hV6.lt), h.below hb07 (Nat.le_refl _), hv.below hb07 hv.lt, ht.keep (hb07.block _ ht.lt), Nat.le_trans hK hb07.size⟩
  have hFl : ∀ k, F.has p A.n k → k < w.heap.size := fun k hk => h.has_lt hk
  have hFr : Free F p A.n v := ⟨fun q => by have := hFl v q; omega, hFg, hFt⟩
  have harF : ¬ F.has p A.n w6.heap.size := fun q => by have := hFl _ q; omega
  have hz7 : w6.heap.size < w7.heap.size := haA.lt
  have hvl : v < w6.heap.size := hV6.lt
  have hpw := arcPowered_ok 20 #[.pointer (some ⟨w6.heap.size, 0, none⟩)] #[] hcf w7 w6.heap.size _ haA rfl
    (fun w1 x w2 => x = .nilIface ∧ ArrAt w2 p (newArc (A.readTo A.n) D L G) F ∧ (∃ u, ArcAt w2 w6.heap.size v D L G 1 2 0 u (.slice none 0 0) false ∧ Ints (fun k => w1.heap.size ≤ k) w2 u [2]) ∧ Outside (fun k => k = w6.heap.size ∨ F.has p A.n k) w1 w2)
    (fun w1 hb1 hz1 => (load_new (haA.keep (hb1.block _ haA.lt)) (hV7.below hb1 (Nat.le_refl _)) hFr harF hf hn hr hD1 hD hL hL4 hG hdiv h16 (by omega) hw hlost hbad hz).mono (by
      rintro e w2 ⟨rfl, hA2, ⟨u, hu1, hu2⟩, hO2⟩
      exact ⟨_, rfl, .inl rfl, ⟨rfl, hA2, ⟨u, hu1, hu2⟩, hO2⟩, hO2.block _ (by omega) (fun q => q.elim (fun e => by omega) (fun q => by have := hFl _ q; omega)), _, hu1, rfl⟩))
  have H7 := hide (And.intro hb07 (And.intro hV7 (And.intro hFl (And.intro hpw (And.intro hFr hz7)))))
  clear hb05 hb06 hbA haA hb07 hV7 hpw hV6 hb6 hFr harF q0 q1 q2 o4
  have hw7' : w6.alloc (.cells #[.pointer (some ⟨v, 0, none⟩), .int .i64 0, .int .i64 0, .int .i64 0, .int .u64 0, .int .i64 0, .int .i64 0, .slice none 0 0, .slice none 0 0, .bool false] 68) = w7 := hw7
  clear hw7
  go_wp2_with fail
  clear hw7'
  refine H7.out.2.2.2.1.mono ?_
  rintro e w8 ⟨x, w1, wl, rfl, _, hb1, hz1, ⟨rfl, hA2, ⟨u, hu1, hu2⟩, hO2⟩, rfl⟩
  have H8 := hide (And.intro hb1 (And.intro hz1 (And.intro hA2 (And.intro hu1 (And.intro hu2 hO2)))))
  clear hb1 hz1 hA2 hu1 hu2 hO2
  go_wp2
  go_ret2
  obtain ⟨hb07, hV7, hFl, _, hFr, hz7⟩ := H7.out
  obtain ⟨hb1, hz1, hA2, hu1, hu2, hO2⟩ := H8.out
  have hb01 : Below w.heap.size w w1 := hb07.trans (hb1.mono hb07.size)
  have hz07 := hb07.size
  have hsame : ∀ k, k ≠ w7.heap.size → k ≠ w6.heap.size → ((wl.setCell ⟨w7.heap.size, 0, none⟩ .nilIface).setCell ⟨w6.heap.size, 9, none⟩ (.bool false)).heap[k]? = wl.heap[k]? := fun k h1 h2 => (blk_setCell_other _ _ _ _ h2).trans (blk_setCell_other _ _ _ _ h1)
  have hzl : ((wl.setCell ⟨w7.heap.size, 0, none⟩ .nilIface).setCell ⟨w6.heap.size, 9, none⟩ (.bool false)).heap.size = wl.heap.size := by simp [World.setCell]
  have hO : Outside (F.has p A.n) w ((wl.setCell ⟨w7.heap.size, 0, none⟩ .nilIface).setCell ⟨w6.heap.size, 9, none⟩ (.bool false)) :=
    ⟨hO2.os.trans hb01.os, hO2.tape.trans hb01.tape, hO2.output.trans hb01.output, by rw [hzl]; exact Nat.le_trans hb01.size hO2.size, fun k hk hnF => (hsame k (by omega) (by omega)).trans ((hO2.block k (by have := hb01.size; omega) (fun q => q.elim (fun e => by omega) hnF)).trans (hb01.block k hk))⟩
  refine ⟨w6.heap.size, v, ps, u, rfl, by omega, by omega, ?_, ?_, ?_, hO⟩
  · have hu1' : wl.heap[w6.heap.size]? = some (.cells (arcA v D L G 1 2 0 u (.slice none 0 0) false) 68 (0, 0)) := hu1
    have h1 : (wl.setCell ⟨w7.heap.size, 0, none⟩ .nilIface).heap[w6.heap.size]? = some (.cells (arcA v D L G 1 2 0 u (.slice none 0 0) false) 68 (0, 0)) := (blk_setCell_other _ _ _ _ (by show w6.heap.size ≠ w7.heap.size; omega)).trans hu1'
    exact heap_setCell_at (j := 9) h1 (.bool false)
  · obtain ⟨ao, cc, q1, q2, q3⟩ := hu2
    refine ⟨ao, cc, q1, q2, fun hl => ?_⟩
    obtain ⟨b, bo, r1, r2, r3, r4⟩ := q3 hl
    exact ⟨b, bo, r1, by omega, by rw [hzl]; exact r3, fun i hi => (World.cell?_of_block (hsame b (by omega) (by omega))).trans (r4 i hi)⟩
  · refine ⟨?_, hA2.keep fun k hk => hsame k (by have := hFl k hk; omega) (by have := hFl k hk; omega), ?_, ?_, ?_⟩
    · exact hV7.vol.keep ((hsame v (by have := hV7.vol.lt; omega) (by omega)).trans ((hO2.block v (by have := hV7.vol.lt; omega) (fun q => q.elim (fun e => by omega) hFr.v)).trans (hb1.block v hV7.vol.lt)))
    · exact hv.keep (hO.block _ hv.lt hFg)
    · exact ht.keep (hO.block _ ht.lt hFt)
    · rw [hzl]; exact Nat.le_trans (Nat.le_trans hK hb01.size) hO2.size
end Go.Proofs.YtogdeaaphdlchaaGreatDoor
/-
  archive.Open: by what load answers.
-/
namespace Go.Proofs.YtogdeaaphdlchaaGreatDoor
open Go.RowKit Go.Deep Gf

/-- what Open answers, by what load does -/
def ObPost (w : World) (p : Nat) (A : Arr) (F : Foot) (x : Value) (R : Nat → Nat → Nat → World → World → Prop) (e : Ending) (w' : World) : Prop := ∃ ar v ps w1 w2 w0, ((x = .nilIface ∧ e = .returned (.tuple #[.pointer (some ⟨ar, 0, none⟩), .nilIface])) ∨ (x ≠ .nilIface ∧ e = .returned (.tuple #[.pointer none, x]))) ∧ R ar v ps w1 w2 ∧ w' = (w2.setCell ⟨w0, 0, none⟩ x).setCell ⟨ar, 9, none⟩ (.bool false) ∧ w.heap.size ≤ w0 ∧ w.heap.size ≤ ar ∧ Outside (F.has p A.n) w w'
set_option maxRecDepth 100000 in
set_option maxHeartbeats 4000000 in
theorem open_by {w : World} {p D L G : Nat} {cache : Int} {A : Arr} {F : Foot} (h : ArrAt w p A F) (hf : A.fit) (hn : A.n = D + L + G) (hr : rightB D L G = true) (hD : D ≤ 12) (hL4 : L ≤ 4) (hG : G ≤ 4) (hc0 : 0 ≤ cache) (hc1 : cache ≤ 64)
    (hnb : 8 ≤ A.nb) (hv : hvLaid w) (ht : tabLaid w) (hK : 3 ≤ w.heap.size) (hFg : ¬ F.has p A.n 2) (hFt : ¬ F.has p A.n 1) (hn0 : 0 < A.n)
    (x : Value) (hx : x = .nilIface ∨ ∃ n : Int, n ≠ 13 ∧ x = .iface 34 (.int .i64 n)) (R : Nat → Nat → Nat → World → World → Prop)
    (hload : ∀ (w1 : World) (ar v ps : Nat), Below w.heap.size w w1 → w.heap.size ≤ ar → w.heap.size ≤ v → v ≠ ar → ArcAt w1 ar v 0 0 0 0 0 0 (.slice none 0 0) (.slice none 0 0) false → Vol w1 v p D L G ps 0 A F → Free F p A.n v → ¬ F.has p A.n ar →
      Calls Tryz.prog 20 #[.pointer (some ⟨ar, 0, none⟩)] w1 fun e w2 => e = .returned x ∧ R ar v ps w1 w2 ∧ Outside (fun k => k = ar ∨ k = v ∨ F.has p A.n k) w1 w2 ∧ ∃ cs', w2.heap[ar]? = some (.cells cs' 68 (0, 0)) ∧ cs'[9]? = some (.bool false)) :
    Calls Tryz.prog 11 #[.pointer (some ⟨p, 0, none⟩), .agg #[.int .i64 D, .int .i64 L, .int .i64 G], .agg #[.int .i64 cache]] w fun e w' => ObPost w p A F x R e w' := by
  have hmf : ∀ (fn : Fn) (first cap : Array Value) (w : World), (Instr.makeFunc fn first cap).run Tryz.prog w = .ok (.func fn first cap) w := fun _ _ _ _ => rfl
  have hcf : ∀ (args : Array Value) (w : World), (callFunc 20 args).run Tryz.prog w = .ok (.enter 20 args) w := enters_of Tryz.func20 (by kernel_rfl) rfl
  have hq : ((w.alloc (.cells #[.int .i64 (D : Int), .int .i64 (L : Int), .int .i64 (G : Int)] 23)).alloc (.cells #[.int .i64 cache] 33)).heap[w.heap.size]? = some (.cells #[.int .i64 (D : Int), .int .i64 (L : Int), .int .i64 (G : Int)] 23 (0, 0)) := (blk_alloc_lt _ _ _ (by simp)).trans (blk_alloc_new _ _)
  have ho : ((w.alloc (.cells #[.int .i64 (D : Int), .int .i64 (L : Int), .int .i64 (G : Int)] 23)).alloc (.cells #[.int .i64 cache] 33)).heap[w.heap.size + 1]? = some (.cells #[.int .i64 cache] 33 (0, 0)) := by
    have := blk_alloc_new (w.alloc (.cells #[.int .i64 (D : Int), .int .i64 (L : Int), .int .i64 (G : Int)] 23)) (.cells #[.int .i64 cache] 33)
    rwa [World.size_alloc] at this
  have hb2 : Below w.heap.size w ((w.alloc (.cells #[.int .i64 (D : Int), .int .i64 (L : Int), .int .i64 (G : Int)] 23)).alloc (.cells #[.int .i64 cache] 33)) := ((Below.refl _ w).alloc (Nat.le_refl _) _).alloc (by simp) _
  have hz2 : ((w.alloc (.cells #[.int .i64 (D : Int), .int .i64 (L : Int), .int .i64 (G : Int)] 23)).alloc (.cells #[.int .i64 cache] 33)).heap.size = w.heap.size + 2 := by simp
  obtain ⟨w2, hw2⟩ : ∃ w2, (w.alloc (.cells #[.int .i64 (D : Int), .int .i64 (L : Int), .int .i64 (G : Int)] 23)).alloc (.cells #[.int .i64 cache] 33) = w2 := ⟨_, rfl⟩
  rw [hw2] at hq ho hb2 hz2
  have p0 : w2.cell? ⟨w.heap.size, 0, none⟩ = some (.int .i64 D) := by simp [World.cell?, hq]
  have p1 : w2.cell? ⟨w.heap.size, 1, none⟩ = some (.int .i64 L) := by simp [World.cell?, hq]
  have p2 : w2.cell? ⟨w.heap.size, 2, none⟩ = some (.int .i64 G) := by simp [World.cell?, hq]
  have H2 := hide (And.intro hq (And.intro ho (And.intro hb2 hz2)))
  clear hq ho hb2 hz2
  go_enter Tryz.func11, Tryz.ntmps11
  go_wp2_with fail
  refine (right_any D L G _).mono ?_
  rw [hr]
  rintro e w3 ⟨rfl, hb3⟩
  obtain ⟨hq, ho, hb2, hz2⟩ := H2.out
  have hq3 := (hb3.block _ (by omega)).trans hq
  have ho3 := (hb3.block _ (by omega)).trans ho
  have hb03 : Below w.heap.size w w3 := hb2.trans (hb3.mono hb2.size)
  have hz3 := hb3.size
  have o0 : w3.cell? ⟨w.heap.size + 1, 0, none⟩ = some (.int .i64 cache) := by simp [World.cell?, ho3]
  have H3 := hide (And.intro hq3 (And.intro ho3 (And.intro hb03 (show w.heap.size + 2 ≤ w3.heap.size by omega))))
  clear hq ho hb2 hz2 hq3 ho3 hb03 hb3 hz3 p0 p1 p2
  go_wp2_with fail
  refine open_region (by kernel_rfl) (h.below H3.out.2.2.1 (Nat.le_refl _)) hf H3.out.1 hD hL4 hG rfl rfl rfl ?_
  intro w4 hb4
  rw [decide_eq_true hn]
  obtain ⟨hq3, ho3, hb03, hz3⟩ := H3.out
  have hq4 := (hb4.block _ (by omega)).trans hq3
  have ho4 := (hb4.block _ (by omega)).trans ho3
  have hb04 : Below w.heap.size w w4 := hb03.trans (hb4.mono hb03.size)
  have hz4 := hb4.size
  have hbk := blocks_any (h.below hb04 (Nat.le_refl _)) (by omega)
  have hnb' : ¬ ((A.nb : Nat) : Int) < 8 := by omega
  have q0 : w4.cell? ⟨w.heap.size, 0, none⟩ = some (.int .i64 D) := by simp [World.cell?, hq4]
  have q1 : w4.cell? ⟨w.heap.size, 1, none⟩ = some (.int .i64 L) := by simp [World.cell?, hq4]
  have q2 : w4.cell? ⟨w.heap.size, 2, none⟩ = some (.int .i64 G) := by simp [World.cell?, hq4]
  have o4 : w4.cell? ⟨w.heap.size + 1, 0, none⟩ = some (.int .i64 cache) := by simp [World.cell?, ho4]
  have H4 := hide (And.intro hb04 (And.intro hbk (show w.heap.size + 2 ≤ w4.heap.size by omega)))
  clear hq3 ho3 hb03 hz3 hq4 ho4 hb04 hz4 hbk hb4 o0
  rename_i hKK
  refine hKK _ _ ?_
  clear hKK
  simp only [Act.putFrom, Act.put, List.setIfInBounds_toArray, List.set_cons_succ, List.set_cons_zero]
  obtain ⟨NB, hNB⟩ : ∃ NB, A.nb = NB := ⟨_, rfl⟩
  rw [hNB] at H4 hnb'
  have HNB := hide hNB
  clear hNB
  go_wp2_with fail
  refine H4.out.2.1.mono ?_
  rintro e w5 ⟨rfl, hw5⟩
  subst hw5
  go_wp2_with fail
  refine (volNew_any p D L G cache w5).mono ?_
  rintro e w6 ⟨v, ps, rfl, hvge, hV6, hb6⟩
  obtain ⟨hb05, _, hz5⟩ := H4.out
  have hb06 : Below w.heap.size w w6 := hb05.trans (hb6.mono hb05.size)
  have hz6 := hb6.size
  have hbA : Below w6.heap.size w6 (w6.alloc (.cells (arcA v 0 0 0 0 0 0 (.slice none 0 0) (.slice none 0 0) false) 68)) := (Below.refl _ w6).alloc (Nat.le_refl _) _
  have haA : ArcAt (w6.alloc (.cells (arcA v 0 0 0 0 0 0 (.slice none 0 0) (.slice none 0 0) false) 68)) w6.heap.size v 0 0 0 0 0 0 (.slice none 0 0) (.slice none 0 0) false := blk_alloc_new _ _
  obtain ⟨w7, hw7⟩ : ∃ w7, w6.alloc (.cells (arcA v 0 0 0 0 0 0 (.slice none 0 0) (.slice none 0 0) false) 68) = w7 := ⟨_, rfl⟩
  rw [hw7] at hbA haA
  have hb07 : Below w.heap.size w w7 := hb06.trans (hbA.mono hb06.size)
  have hV7 : Vol w7 v p D L G ps 0 A F := ⟨hV6.keep (hbA.block _ hV6.lt), h.below hb07 (Nat.le_refl _), hv.below hb07 hv.lt, ht.keep (hb07.block _ ht.lt), Nat.le_trans hK hb07.size⟩
  have hFl : ∀ k, F.has p A.n k → k < w.heap.size := fun k hk => h.has_lt hk
  have hFr : Free F p A.n v := ⟨fun q => by have := hFl v q; omega, hFg, hFt⟩
  have harF : ¬ F.has p A.n w6.heap.size := fun q => by have := hFl _ q; omega
  have hz7 : w6.heap.size < w7.heap.size := haA.lt
  have hvl : v < w6.heap.size := hV6.lt
  have hpw := arcPowered_ok 20 #[.pointer (some ⟨w6.heap.size, 0, none⟩)] #[] hcf w7 w6.heap.size _ haA rfl
    (fun w1 y w2 => y = x ∧ R w6.heap.size v ps w1 w2 ∧ Outside (fun k => k = w6.heap.size ∨ k = v ∨ F.has p A.n k) w1 w2)
    (fun w1 hb1 hz1 => (hload w1 w6.heap.size v ps (hb07.trans (hb1.mono hb07.size)) (by omega) (by omega) (by omega) (haA.keep (hb1.block _ haA.lt)) (hV7.below hb1 (Nat.le_refl _)) hFr harF).mono (by
      rintro e w2 ⟨rfl, hR, hO2, hcs⟩
      exact ⟨_, rfl, hx, ⟨rfl, hR, hO2⟩, hO2.block _ (by omega) (fun q => by rcases q with e | e | q; omega; omega; have := hFl _ q; omega), hcs⟩))
  have H7 := hide (And.intro hb07 (And.intro hFl (And.intro hpw hz7)))
  clear hb05 hb06 hbA haA hb07 hV7 hpw hV6 hb6 hFr harF q0 q1 q2 o4
  have hw7' : w6.alloc (.cells #[.pointer (some ⟨v, 0, none⟩), .int .i64 0, .int .i64 0, .int .i64 0, .int .u64 0, .int .i64 0, .int .i64 0, .slice none 0 0, .slice none 0 0, .bool false] 68) = w7 := hw7
  clear hw7
  go_wp2_with fail
  clear hw7'
  refine H7.out.2.2.1.mono ?_
  rintro e w8 ⟨y, w1, wl, rfl, hnc, hb1, hz1, ⟨rfl, hR, hO2⟩, hw8⟩
  have H8 := hide (And.intro hb1 (And.intro hz1 (And.intro hR (And.intro hO2 hw8))))
  clear hb1 hz1 hR hO2 hw8 hnc hload
  have hfin : Outside (F.has p A.n) w w8 := by
    obtain ⟨hb07, hFl, _, hz7⟩ := H7.out
    obtain ⟨hb1, hz1, hR, hO2, hw8⟩ := H8.out
    have hb01 : Below w.heap.size w w1 := hb07.trans (hb1.mono hb07.size)
    have hz07 := hb07.size
    rw [hw8]
    have hsame : ∀ k, k ≠ w7.heap.size → k ≠ w6.heap.size → ((wl.setCell ⟨w7.heap.size, 0, none⟩ y).setCell ⟨w6.heap.size, 9, none⟩ (.bool false)).heap[k]? = wl.heap[k]? := fun k h1 h2 => (blk_setCell_other _ _ _ _ h2).trans (blk_setCell_other _ _ _ _ h1)
    have hzl : ((wl.setCell ⟨w7.heap.size, 0, none⟩ y).setCell ⟨w6.heap.size, 9, none⟩ (.bool false)).heap.size = wl.heap.size := by simp [World.setCell]
    exact ⟨hO2.os.trans hb01.os, hO2.tape.trans hb01.tape, hO2.output.trans hb01.output, by rw [hzl]; exact Nat.le_trans hb01.size hO2.size, fun k hk hnF => (hsame k (by omega) (by omega)).trans ((hO2.block k (by have := hb01.size; omega) (fun q => by rcases q with e | e | q; omega; omega; exact hnF q)).trans (hb01.block k hk))⟩
  have HF := hide hfin
  clear hfin
  have hz7' : w.heap.size ≤ w7.heap.size := H7.out.1.size
  rcases hx with hx | ⟨n, _, hx⟩
  · subst hx
    go_wp2
    go_ret2
    exact ⟨w6.heap.size, v, ps, w1, wl, w7.heap.size, .inl ⟨rfl, rfl⟩, H8.out.2.2.1, H8.out.2.2.2.2, hz7', by omega, HF.out⟩
  · subst hx
    go_wp2
    go_ret2
    exact ⟨w6.heap.size, v, ps, w1, wl, w7.heap.size, .inr ⟨(fun e => (by cases e)), rfl⟩, H8.out.2.2.1, H8.out.2.2.2.2, hz7', by omega, HF.out⟩
end Go.Proofs.YtogdeaaphdlchaaGreatDoor
