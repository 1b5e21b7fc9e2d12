import Derived.Test.YtogdeaaphdlchaaGreatDoorPart26
import Derived.Test.YtogdeaaphdlchaaGreatDoorArrNew
import Derived.Test.YtogdeaaphdlchaaGreatDoorPart15
import Derived.Test.YtogdeaaphdlchaaGreatDoorPart08
import Derived.Test.YtogdeaaphdlchaaGreatDoorPart02
import Derived.Lib.LaidTab
import Derived.Carry
/-
  The law Opens.
-/
namespace Go.Proofs.YtogdeaaphdlchaaGreatDoor
open Go.RowKit Go.Deep Gf

theorem rem_key (d : Int) (m : Nat) (hm : 0 < m) (hm' : m ≤ 1000) : ∃ n : Nat, n < m ∧ wrap64 ((IntKind.u64.wrap d).tmod m) = (n : Int) := by
  have h0 : 0 ≤ IntKind.u64.wrap d := by rw [IntKind.wrap_u64]; omega
  rw [Int.tmod_eq_emod_of_nonneg h0]
  have h1 := Int.emod_nonneg (IntKind.u64.wrap d) (show (m : Int) ≠ 0 by omega)
  have h2 := Int.emod_lt_of_pos (IntKind.u64.wrap d) (show (0 : Int) < m by omega)
  refine ⟨(IntKind.u64.wrap d % m).toNat, by omega, ?_⟩
  rw [show ((IntKind.u64.wrap d % (m : Int)).toNat : Int) = IntKind.u64.wrap d % m by omega]
  generalize IntKind.u64.wrap d % (m : Int) = z at h1 h2
  unfold wrap64
  omega
/-- what stands while the law runs -/
structure OB (w wk : World) (D L G D2 L2 G2 : Int) : Prop where
  par : wk.heap[w.heap.size]? = some (.cells #[.int .i64 D, .int .i64 L, .int .i64 G] 23 (0, 0))
  oth : wk.heap[w.heap.size + 1]? = some (.cells #[.int .i64 D2, .int .i64 L2, .int .i64 G2] 23 (0, 0))
  glob : globalLaid wk
  hv : hvLaid wk
  tab : tabLaid wk
  below : Below w.heap.size w wk
  room : w.heap.size + 2 ≤ wk.heap.size
theorem OB.step {w wk w' : World} {D L G D2 L2 G2 : Int} (h : OB w wk D L G D2 L2 G2) (hb : Below wk.heap.size wk w') : OB w w' D L G D2 L2 G2 := by
  have hr := h.room
  refine ⟨(hb.block _ (by omega)).trans h.par, (hb.block _ (by omega)).trans h.oth, ?_, h.hv.below hb h.hv.lt, h.tab.keep (hb.block _ h.tab.lt), h.below.trans (hb.mono h.below.size), Nat.le_trans hr hb.size⟩
  have hg : wk.cell? ⟨0, 0, none⟩ = _ := h.glob
  exact (hb.cell (p := ⟨0, 0, none⟩) (by show 0 < wk.heap.size; omega)).trans hg
theorem OB.out {w wk w' : World} {D L G D2 L2 G2 : Int} {S : Nat → Prop} (h : OB w wk D L G D2 L2 G2) (hK : 3 ≤ w.heap.size) (hO : Outside S wk w') (hS : ∀ k, S k → w.heap.size + 2 ≤ k) : OB w w' D L G D2 L2 G2 := by
  have hr := h.room
  have hb : ∀ k, k < w.heap.size + 2 → w'.heap[k]? = wk.heap[k]? := fun k hk => hO.block k (by omega) (fun q => by have := hS k q; omega)
  refine ⟨(hb _ (by omega)).trans h.par, (hb _ (by omega)).trans h.oth, ?_, h.hv.keep (hb _ (by have h9 : 2 < 3 := (by decide); omega)), h.tab.keep (hb _ (by have h9 : 1 < 3 := (by decide); omega)), ⟨hO.os.trans h.below.os, hO.tape.trans h.below.tape, hO.output.trans h.below.output, Nat.le_trans h.below.size hO.size, fun k hk => (hb k (by omega)).trans (h.below.block k hk)⟩, Nat.le_trans hr hO.size⟩
  have hg : wk.cell? ⟨0, 0, none⟩ = _ := h.glob
  have h0 : 0 < 3 := by decide
  exact (World.cell?_of_block (hb 0 (by omega))).trans hg
theorem OB.pc {w wk : World} {D L G D2 L2 G2 : Int} (h : OB w wk D L G D2 L2 G2) : wk.cell? ⟨w.heap.size, 0, none⟩ = some (.int .i64 D) ∧ wk.cell? ⟨w.heap.size, 1, none⟩ = some (.int .i64 L) ∧ wk.cell? ⟨w.heap.size, 2, none⟩ = some (.int .i64 G) := by
  simp [World.cell?, h.par]
theorem OB.oc {w wk : World} {D L G D2 L2 G2 : Int} (h : OB w wk D L G D2 L2 G2) : wk.cell? ⟨w.heap.size + 1, 0, none⟩ = some (.int .i64 D2) ∧ wk.cell? ⟨w.heap.size + 1, 1, none⟩ = some (.int .i64 L2) ∧ wk.cell? ⟨w.heap.size + 1, 2, none⟩ = some (.int .i64 G2) := by
  simp [World.cell?, h.oth]
theorem OB.new {w : World} (D L G D2 L2 G2 : Int) (hg : globalLaid w) (hv : hvLaid w) (ht : tabLaid w) (hK : 3 ≤ w.heap.size) : OB w ((w.alloc (.cells #[.int .i64 D, .int .i64 L, .int .i64 G] 23)).alloc (.cells #[.int .i64 D2, .int .i64 L2, .int .i64 G2] 23)) D L G D2 L2 G2 := by
  have hb : Below w.heap.size w ((w.alloc (.cells #[.int .i64 D, .int .i64 L, .int .i64 G] 23)).alloc (.cells #[.int .i64 D2, .int .i64 L2, .int .i64 G2] 23)) := ((Below.refl _ w).alloc (Nat.le_refl _) _).alloc (by simp) _
  refine ⟨(blk_alloc_lt _ _ _ (by simp)).trans (blk_alloc_new _ _), ?_, ?_, hv.below hb hv.lt, ht.keep (hb.block _ ht.lt), hb, by simp⟩
  · have := blk_alloc_new (w.alloc (.cells #[.int .i64 D, .int .i64 L, .int .i64 G] 23)) (.cells #[.int .i64 D2, .int .i64 L2, .int .i64 G2] 23)
    rwa [World.size_alloc] at this
  · have hg' : w.cell? ⟨0, 0, none⟩ = _ := hg
    have h0 : 0 < 3 := by decide
    exact (hb.cell (p := ⟨0, 0, none⟩) (by show 0 < w.heap.size; omega)).trans hg'
/-- .. with an archive without objects -/
structure OC (wk : World) (sa ar v D L G p : Nat) (u : Value) (B : Arr) (F : Foot) : Prop where
  sb : Boxed wk sa 55 (.pointer (some ⟨ar, 0, none⟩))
  arc : ArcAt wk ar v D L G 1 2 0 u (.slice none 0 0) false
  arr : ArrAt wk p B F
theorem OC.step {wk w' : World} {sa ar v D L G p : Nat} {u : Value} {B : Arr} {F : Foot} (h : OC wk sa ar v D L G p u B F) (hb : Below wk.heap.size wk w') : OC w' sa ar v D L G p u B F :=
  ⟨(hb.block _ h.sb.lt).trans h.sb, h.arc.keep (hb.block _ h.arc.lt), h.arr.below hb (Nat.le_refl _)⟩
theorem right_natO {D L G : Int} (h : rightB D L G = true) : ∃ a b c : Nat, D = a ∧ L = b ∧ G = c ∧ 1 ≤ a ∧ a ≤ 12 ∧ 1 ≤ b ∧ b ≤ 4 ∧ c ≤ 4 ∧ a % b = 0 ∧ a + b + c ≤ 16 := by
  have h' := of_decide_eq_true h
  obtain ⟨h1, h2, h3, h4, h5, h6, h7, h8⟩ := h'
  refine ⟨D.toNat, L.toNat, G.toNat, by omega, by omega, by omega, by omega, by omega, by omega, by omega, by omega, ?_, by omega⟩
  have e1 : D = (D.toNat : Int) := by omega
  have e2 : L = (L.toNat : Int) := by omega
  rw [e1, e2, ← Int.natCast_emod] at h7
  omega
theorem newArc_fit {A : Arr} (h : A.fit) {D L G : Nat} (hD : D ≤ 12) (hL : L ≤ 4) (hG : G ≤ 4) (hn : A.n = D + L + G) : (newArc A D L G).fit := by
  have hf : (Rec.filled).ok := trivial
  have hr : (Rec.root D L G 1 2 0).ok := ⟨by omega, by omega, by omega, by decide, by decide, by decide⟩
  exact (pagesTo_fit (h.putAt _ _ _ fun _ _ => ⟨blk_len hf, blk_lt hf⟩) hD hG hn [2] [] 1).putAt _ _ _ fun _ _ => ⟨blk_len hr, blk_lt hr⟩
theorem alloc_below (w : World) (o : Obj) : Below w.heap.size w (w.alloc o) := (Below.refl _ w).alloc (Nat.le_refl _) _
theorem q_cells (w : World) (a b c : Value) (t : TypeId) {w' : World} (hb : Below (w.alloc (.cells #[a, b, c] t)).heap.size (w.alloc (.cells #[a, b, c] t)) w') : w'.cell? ⟨w.heap.size, 0, none⟩ = some a ∧ w'.cell? ⟨w.heap.size, 1, none⟩ = some b ∧ w'.cell? ⟨w.heap.size, 2, none⟩ = some c := by
  have h : w'.heap[w.heap.size]? = some (.cells #[a, b, c] t (0, 0)) := (hb.block _ (by simp)).trans (blk_alloc_new w (.cells #[a, b, c] t))
  simp [World.cell?, h]
set_option maxRecDepth 100000 in
set_option maxHeartbeats 4000000 in
theorem opens_any (D L G d b cache D2 L2 G2 : Int) (w : World) (hg : globalLaid w) (hv : hvLaid w) (ht : tabLaid w) (hK : 3 ≤ w.heap.size) : Calls Tryz.prog 3 #[.agg #[.int .i64 D, .int .i64 L, .int .i64 G], .int .i64 d, .int .i64 b, .int .i64 cache, .agg #[.int .i64 D2, .int .i64 L2, .int .i64 G2]] w fun e w' => e = .returned (.bool true) ∧ Below w.heap.size w w' := by
  obtain ⟨n, hn, hne⟩ := rem_key d 20 (by decide) (by decide)
  obtain ⟨nb, hnb, hbe⟩ := rem_key b 40 (by decide) (by decide)
  have hB0 := OB.new D L G D2 L2 G2 hg hv ht hK
  obtain ⟨w0, hw0⟩ : ∃ w0, (w.alloc (.cells #[.int .i64 D, .int .i64 L, .int .i64 G] 23)).alloc (.cells #[.int .i64 D2, .int .i64 L2, .int .i64 G2] 23) = w0 := ⟨_, rfl⟩
  rw [hw0] at hB0
  have HB0 := hide hB0
  clear hB0 hg hv ht
  go_enter Tryz.func3, Tryz.ntmps3
  go_wp2_with fail
  have HNE := hide (And.intro hne hbe)
  rw [show (20 : Int) = ((20 : Nat) : Int) from rfl, show (40 : Int) = ((40 : Nat) : Int) from rfl, hne, hbe]
  clear hne hbe
  refine (newArray_any n nb w0 (by omega) (by omega)).mono ?_
  rintro e w1 ⟨rfl, hb1, hcase⟩
  have hB1 := HB0.out.step hb1
  obtain ⟨p0, p1, p2⟩ := hB1.pc
  have H1 := hide (And.intro hB1 (And.intro hb1 hcase))
  clear hB1 hb1 hcase hw0
  obtain ⟨pa, hpa⟩ : ∃ pa, w0.heap.size = pa := ⟨_, rfl⟩
  rw [hpa]
  have HPA := hide hpa
  clear hpa
  go_wp2_with fail
  by_cases hR : rightB D L G = true
  · by_cases hc : 0 ≤ cache ∧ cache ≤ 64
    · obtain ⟨Dn, Ln, Gn, hDn, hLn, hGn, hD1, hD12, hL1, hL4, hG4, hdiv, h16⟩ := right_natO hR
      subst hDn hLn hGn
      have hc1 : ¬ cache < 0 := by omega
      have hc2 : ¬ 64 < cache := by omega
      by_cases hA : n = Dn + Ln + Gn ∧ 8 ≤ nb
      · obtain ⟨hnA, hnb8⟩ := hA
        have hz1 := H1.out.2.1.size
        have hroom0 := HB0.out.room
        obtain ⟨F, hArr, hFge⟩ : ∃ F : Foot, ArrAt w1 pa (newArr n nb) F ∧ ∀ k, F.has pa n k → pa ≤ k := by
          rcases H1.out.2.2 with ⟨hn0, _⟩ | ⟨hn0, F, hArr, hFge⟩
          · omega
          · rw [HPA.out] at hArr hFge
            exact ⟨F, hArr, hFge⟩
        have hpaw : w.heap.size + 2 ≤ pa := by rw [← HPA.out]; exact hroom0
        have hFg : ¬ F.has pa n 2 := fun q => by have := hFge _ q; have h9 : 2 < 3 := (by decide); omega
        have hFt : ¬ F.has pa n 1 := fun q => by have := hFge _ q; have h9 : 1 < 3 := (by decide); omega
        have hsn := sopen_new (cache := cache) (A := newArr n nb) hArr (newArr_fit (by omega) (by omega)) hnA hR hD1 hD12 hL1 hL4 hG4 hdiv h16 (by omega) (by omega) hnb8 (by show (-1 : Int) < 0; omega) (fun _ => rfl) (fun _ => rfl) (fun _ _ => rfl) H1.out.1.hv H1.out.1.tab (Nat.le_trans (by omega : 3 ≤ w.heap.size + 2) H1.out.1.room) hFg hFt
        refine hsn.mono ?_
        rintro e w2 ⟨sa, ar, v, ps, u, rfl, hsa, hsb, hN⟩
        have hB2 := H1.out.1.out hK hN.out (fun k hk => by have := hFge k hk; omega)
        have hC2 : OC w2 sa ar v Dn Ln Gn pa u (newArc ((newArr n nb).readTo n) Dn Ln Gn) F := ⟨hsb, hN.arc, hN.vol.arr⟩
        have hNO : NewOn (newArc ((newArr n nb).readTo n) Dn Ln Gn) Dn Ln Gn := newOn Dn Ln Gn (fun _ _ => rfl) (fun _ => rfl) (by show (-1 : Int) < 0; omega)
        obtain ⟨B, hBe⟩ : ∃ B, newArc ((newArr n nb).readTo n) Dn Ln Gn = B := ⟨_, rfl⟩
        have hBn : B.n = n := by rw [← hBe]; rfl
        have hBb : B.nb = nb := by rw [← hBe]; rfl
        have hBf : B.fit := by
          rw [← hBe]
          have h1 : (newArr n nb).fit := newArr_fit (by omega) (by omega)
          exact newArc_fit (h1.readTo n) hD12 hL4 hG4 hnA
        rw [hBe] at hC2 hNO
        have H2 := hide (And.intro hB2 (And.intro hC2 (And.intro hNO (And.intro hBn (And.intro hBb (And.intro hBf (And.intro hFge (And.intro hFg (And.intro hFt (And.intro hnA hnb8))))))))))
        clear hsn hArr hB2 hC2 hN hsb hNO hBn hBb hBf hBe hFge hFg hFt p0 p1 p2 hc
        go_wp2_with fail
        refine (tell_nil w2).mono ?_
        rintro e w3 ⟨rfl, hb3⟩
        have hB3 := H2.out.1.step hb3
        obtain ⟨p0, p1, p2⟩ := hB3.pc
        have H3 := hide (And.intro hB3 (H2.out.2.1.step hb3))
        clear hb3 hB3
        go_wp2_with fail
        refine (theirs_any (Dn : Int) (Ln : Int) (Gn : Int) w3).mono ?_
        rintro e w4 ⟨rfl, hb4⟩
        have H4 := hide (And.intro (H3.out.1.step hb4) (H3.out.2.step hb4))
        clear hb4 p0 p1 p2
        go_wp2_with fail
        refine (rright_any (Dn : Int) (Ln : Int) (Gn : Int) _).mono ?_
        rw [hR]
        rintro e w5 ⟨rfl, hb5⟩
        obtain ⟨q0, q1, q2⟩ := q_cells _ _ _ _ _ hb5
        have H5 := hide (And.intro ((H4.out.1.step (alloc_below _ _)).step hb5) ((H4.out.2.step (alloc_below _ _)).step hb5))
        clear hb5
        go_wp2_with fail
        refine (rshards_any (Dn : Int) (Ln : Int) (Gn : Int) w5 ⟨by omega, by omega⟩ ⟨by omega, by omega⟩ ⟨by omega, by omega⟩).mono ?_
        rintro e w6 ⟨rfl, hb6⟩
        rw [show ((Dn : Int) + Ln + Gn) = (n : Int) by have := H2.out.2.2.2.2.2.2.2.2.2.1; omega]
        have H6 := hide (And.intro (H5.out.1.step hb6) (H5.out.2.step hb6))
        clear hb6 q0 q1 q2
        have hnb8' : ¬ ((nb : Nat) : Int) < 8 := by omega
        clear hnA hnb8
        go_wp2_with fail
        refine (sList_nil H6.out.2.sb H6.out.2.arc).mono ?_
        rintro e w7 ⟨rfl, hb7⟩
        have H7 := hide (And.intro (H6.out.1.step hb7) (H6.out.2.step hb7))
        clear hb7
        go_wp2_with fail
        refine (tell_nil w7).mono ?_
        rintro e w8 ⟨rfl, hb8⟩
        have hB8 := H7.out.1.step hb8
        obtain ⟨o0, o1, o2⟩ := hB8.oc
        have H8 := hide (And.intro hB8 (H7.out.2.step hb8))
        clear hb8 hB8
        go_wp2_with fail
        refine (theirs_any D2 L2 G2 w8).mono ?_
        rintro e w9 ⟨rfl, hb9⟩
        have H9 := hide (And.intro (H8.out.1.step hb9) (H8.out.2.step hb9))
        clear hb9 o0 o1 o2
        go_wp2_with fail
        refine (rright_any D2 L2 G2 _).mono ?_
        rintro e wa ⟨rfl, hba⟩
        obtain ⟨q0, q1, q2⟩ := q_cells _ _ _ _ _ hba
        have Ha := hide (And.intro ((H9.out.1.step (alloc_below _ _)).step hba) ((H9.out.2.step (alloc_below _ _)).step hba))
        clear hba
        by_cases hR2 : rightB D2 L2 G2 = true
        · rw [hR2]
          obtain ⟨Dm, Lm, Gm, hDm, hLm, hGm, kD1, kD12, kL1, kL4, kG4, kdiv, k16⟩ := right_natO hR2
          subst hDm hLm hGm
          go_wp2_with fail
          refine (rshards_any (Dm : Int) (Lm : Int) (Gm : Int) wa ⟨by omega, by omega⟩ ⟨by omega, by omega⟩ ⟨by omega, by omega⟩).mono ?_
          rintro e wb ⟨rfl, hbb⟩
          rw [show ((Dm : Int) + Lm + Gm) = ((Dm + Lm + Gm : Nat) : Int) by omega]
          obtain ⟨sm, hsm⟩ : ∃ sm, Dm + Lm + Gm = sm := ⟨_, rfl⟩
          rw [hsm]
          have hBb := Ha.out.1.step hbb
          obtain ⟨o0, o1, o2⟩ := hBb.oc
          have Hb := hide (And.intro hBb (Ha.out.2.step hbb))
          have HSM := hide hsm
          clear hbb q0 q1 q2 hBb hsm
          by_cases h9 : sm = n
          · subst h9
            go_wp2_with fail
            obtain ⟨_, _, hNO, hBn, hBb, hBf, hFge, hFg, hFt, hnA, hnb8⟩ := H2.out
            have hBw : B.n = Dm + Lm + Gm := by rw [hBn, HSM.out]
            have hFg' : ¬ F.has pa B.n 2 := by rw [hBn]; exact hFg
            have hFt' : ¬ F.has pa B.n 1 := by rw [hBn]; exact hFt
            have hKb : 3 ≤ wb.heap.size := by have := Hb.out.1.room; omega
            by_cases heq : Dm = Dn ∧ Lm = Ln ∧ Gm = Gn
            · obtain ⟨rfl, rfl, rfl⟩ := heq
              have hag := again_same Hb.out.2.arr hBf hNO hBw hR kD1 kD12 kL4 kG4 k16 (by omega) Hb.out.1.hv Hb.out.1.tab hKb hFg' hFt'
              clear hNO hBf hFg hFt hFg' hFt' hnA hnb8
              refine hag.mono ?_
              rintro e wc ⟨sb, rfl, hOc⟩
              have hBc := Hb.out.1.out hK hOc (fun k hk => by rw [hBn] at hk; have := hFge k hk; omega)
              have Hc := hide hBc
              clear hag hOc hBc o0 o1 o2 hBn hBb hBw hFge
              go_wp2_with fail
              refine (tell_nil wc).mono ?_
              rintro e wd ⟨rfl, hbd⟩
              have hBd := Hc.out.step hbd
              obtain ⟨o0, o1, o2⟩ := hBd.oc
              obtain ⟨p0, p1, p2⟩ := hBd.pc
              have Hd := hide hBd
              clear hbd hBd
              go_wp2
              go_ret
              exact ⟨rfl, Hd.out.below⟩
            · have heq' : ¬ (Dn = Dm ∧ Ln = Lm ∧ Gn = Gm) := fun q => heq ⟨q.1.symm, q.2.1.symm, q.2.2.symm⟩
              have hag := again_other Hb.out.2.arr hBf hNO hD12 hL4 hG4 hBw hR2 kD1 kD12 kL4 kG4 (by omega) heq' Hb.out.1.hv Hb.out.1.tab hKb hFg' hFt'
              clear hNO hBf hFg hFt hFg' hFt' hnA hnb8
              refine hag.mono ?_
              rintro e wc ⟨rfl, hOc⟩
              have hBc := Hb.out.1.out hK hOc (fun k hk => by rw [hBn] at hk; have := hFge k hk; omega)
              have Hc := hide hBc
              clear hag hOc hBc o0 o1 o2 hBn hBb hBw hFge
              go_wp2_with fail
              refine (tell_errno 1 wc Hc.out.glob).mono ?_
              rintro e wd ⟨rfl, hbd⟩
              have hBd := Hc.out.step hbd
              obtain ⟨o0, o1, o2⟩ := hBd.oc
              obtain ⟨p0, p1, p2⟩ := hBd.pc
              have hep : ∀ w' : World, (Op.equalIn 10000 23 (.agg #[.int .i64 (Dm : Int), .int .i64 (Lm : Int), .int .i64 (Gm : Int)]) (.agg #[.int .i64 (Dn : Int), .int .i64 (Ln : Int), .int .i64 (Gn : Int)])).run Tryz.prog w' = .ok false w' := fun w' => by
                rw [eqParams, decide_eq_false (fun q => heq ⟨by omega, by omega, by omega⟩)]
              have Hd := hide hBd
              clear hbd hBd heq heq'
              go_wp2
              go_ret
              exact ⟨rfl, Hd.out.below⟩
          · have h9' : ¬ ((sm : Nat) : Int) = (n : Int) := by omega
            go_wp2
            go_ret
            exact ⟨rfl, Hb.out.1.below⟩
        · have hR2' : rightB D2 L2 G2 = false := by simpa using hR2
          rw [hR2']
          go_wp2
          go_ret
          exact ⟨rfl, Ha.out.1.below⟩
      · have hop : ∀ w2, Below w1.heap.size w1 w2 → Calls Tryz.prog 11 #[.pointer (some ⟨pa, 0, none⟩), .agg #[.int .i64 (Dn : Int), .int .i64 (Ln : Int), .int .i64 (Gn : Int)], .agg #[.int .i64 cache]] w2 fun e w' => e = .returned (.tuple #[.pointer none, .iface 34 (.int .i64 5)]) ∧ Below w2.heap.size w2 w' := by
          intro w2 hb2
          have hz1 := H1.out.2.1.size
          rcases H1.out.2.2 with ⟨hn0, ao, cap, hcell⟩ | ⟨hn0, F, hArr, hFge⟩
          · rw [HPA.out] at hcell
            have hpl : pa < w1.heap.size := (Array.getElem?_eq_some_iff.1 hcell).1
            refine open_array0 (fun w' hb' => drives_zero (ao := ao) (cap := cap) (((hb'.block pa (by have := hb2.size; omega)).trans (hb2.block pa hpl)).trans hcell)) hR hD1 hD12 hL4 hG4 (by omega) (by omega)
          · rw [HPA.out] at hArr
            exact open_array (hArr.below hb2 (Nat.le_refl _)) (newArr_fit (by omega) (by omega)) hR hD1 hD12 hL4 hG4 (by omega) (by omega) (by
              by_cases h9 : n = Dn + Ln + Gn
              · exact .inr (by show nb < 8; omega)
              · exact .inl h9)
        refine (sopen_err (n := 5) hop).mono ?_
        rintro e w2 ⟨rfl, hb2⟩
        have H2 := hide (H1.out.1.step hb2)
        clear hb2 p0 p1 p2 hop hc
        go_wp2_with fail
        refine (tell_errno 5 w2 H2.out.glob).mono ?_
        rintro e w3 ⟨rfl, hb3⟩
        have hB3 := H2.out.step hb3
        obtain ⟨p0, p1, p2⟩ := hB3.pc
        have H3 := hide (And.intro hB3 hb3)
        clear hb3 hB3
        go_wp2_with fail
        refine (theirs_any (Dn : Int) (Ln : Int) (Gn : Int) w3).mono ?_
        rintro e w4 ⟨rfl, hb4⟩
        have hB4 := H3.out.1.step hb4
        have H4 := hide (And.intro hB4 hb4)
        clear hb4 hB4 p0 p1 p2
        go_wp2_with fail
        refine (rright_any (Dn : Int) (Ln : Int) (Gn : Int) _).mono ?_
        rw [hR]
        rintro e w5 ⟨rfl, hb5⟩
        have hB5 := (H4.out.1.step (alloc_below _ _)).step hb5
        obtain ⟨q0, q1, q2⟩ := q_cells _ _ _ _ _ hb5
        have H5 := hide (And.intro hB5 hb5)
        clear hb5 hB5
        go_wp2_with fail
        refine (rshards_any (Dn : Int) (Ln : Int) (Gn : Int) w5 ⟨by omega, by omega⟩ ⟨by omega, by omega⟩ ⟨by omega, by omega⟩).mono ?_
        rintro e w6 ⟨rfl, hb6⟩
        rw [show ((Dn : Int) + Ln + Gn) = ((Dn + Ln + Gn : Nat) : Int) by omega]
        obtain ⟨sm, hsm⟩ : ∃ sm, Dn + Ln + Gn = sm := ⟨_, rfl⟩
        rw [hsm]
        have H6 := hide (And.intro (H5.out.1.step hb6) hb6)
        have HSM := hide hsm
        clear hb6 q0 q1 q2
        by_cases h9 : n = sm
        · have hnb8 : ((nb : Nat) : Int) < 8 := by omega
          subst h9
          clear hA hsm
          go_wp2
          go_ret
          exact ⟨rfl, H6.out.1.below⟩
        · have h9' : ¬ ((n : Nat) : Int) = (sm : Int) := by omega
          clear hA hsm
          go_wp2
          go_ret
          exact ⟨rfl, H6.out.1.below⟩
    · refine (sopen_err (n := 1) fun w2 _ => open_cache hR (by omega)).mono ?_
      rintro e w2 ⟨rfl, hb2⟩
      have H2 := hide (H1.out.1.step hb2)
      clear hb2 p0 p1 p2
      go_wp2_with fail
      refine (tell_errno 1 w2 H2.out.glob).mono ?_
      rintro e w3 ⟨rfl, hb3⟩
      have hB3 := H2.out.step hb3
      obtain ⟨p0, p1, p2⟩ := hB3.pc
      have H3 := hide (And.intro hB3 hb3)
      clear hb3 hB3
      go_wp2_with fail
      refine (theirs_any D L G w3).mono ?_
      rintro e w4 ⟨rfl, hb4⟩
      have hB4 := H3.out.1.step hb4
      have H4 := hide (And.intro hB4 hb4)
      clear hb4 hB4 p0 p1 p2
      go_wp2_with fail
      refine (rright_any D L G _).mono ?_
      rw [hR]
      rintro e w5 ⟨rfl, hb5⟩
      have hB5 := (H4.out.1.step (alloc_below _ _)).step hb5
      obtain ⟨q0, q1, q2⟩ := q_cells _ _ _ _ _ hb5
      have H5 := hide (And.intro hB5 hb5)
      clear hb5 hB5
      by_cases hc0 : cache < 0
      · clear hc
        go_wp2
        go_ret
        exact ⟨rfl, H5.out.1.below⟩
      · have hc1 : 64 < cache := by omega
        clear hc
        go_wp2
        go_ret
        exact ⟨rfl, H5.out.1.below⟩
  · have hR' : rightB D L G = false := by simpa using hR
    refine (sopen_err (n := 1) fun w2 _ => open_wrong hR').mono ?_
    rintro e w2 ⟨rfl, hb2⟩
    have H2 := hide (H1.out.1.step hb2)
    clear hb2 p0 p1 p2
    go_wp2_with fail
    refine (tell_errno 1 w2 H2.out.glob).mono ?_
    rintro e w3 ⟨rfl, hb3⟩
    have hB3 := H2.out.step hb3
    obtain ⟨p0, p1, p2⟩ := hB3.pc
    have H3 := hide (And.intro hB3 hb3)
    clear hb3 hB3
    go_wp2_with fail
    refine (theirs_any D L G w3).mono ?_
    rintro e w4 ⟨rfl, hb4⟩
    have hB4 := H3.out.1.step hb4
    have H4 := hide (And.intro hB4 hb4)
    clear hb4 hB4 p0 p1 p2
    go_wp2_with fail
    refine (rright_any D L G _).mono ?_
    rw [hR']
    rintro e w5 ⟨rfl, hb5⟩
    have hB5 := (H4.out.1.step (alloc_below _ _)).step hb5
    obtain ⟨q0, q1, q2⟩ := q_cells _ _ _ _ _ hb5
    have H5 := hide (And.intro hB5 hb5)
    clear hb5 hB5
    go_wp2
    go_ret
    exact ⟨rfl, H5.out.1.below⟩
end Go.Proofs.YtogdeaaphdlchaaGreatDoor
/-
  Three package-level variables: the one that errors.As reads, the table that math/bits reads, the sum's halves.
-/
namespace Go.Proofs.YtogdeaaphdlchaaGreatDoor
open Go.ChangeShapes Go.WideShapes Go.RowKit

abbrev laids3 : List (String × DataW Unit) := [("math/bits.deBruijn64tab", Rows.laid_math_bits_deBruijn64tab), ("errors.errorType", Rows.laid_errors_errorType), ("stripes/record.halves", Rows.laid_stripes_record_halves)]
/-- the tables' numbers -/
def tabZ3 : List Int := (List.range 64).map fun j => ((Lib.deBruijn64tab.getD j 0 : Nat) : Int)
def halvesZ : List Int := halvesL.map fun (x : Nat) => (x : Int)
theorem Tryz.bt3 : Tryz.prog.globalNamed "math/bits.deBruijn64tab" = some 1 := by kernel_rfl
theorem Tryz.bt3Type : (Tryz.prog.globals[1]?).map (·.type) = some 156 := by kernel_rfl
theorem Tryz.bt3Cells : Tryz.prog.cellsOf 156 = 64 := by kernel_rfl
theorem Tryz.byteCells3 : Tryz.prog.cellsOf 5 = 1 := by kernel_rfl
theorem Tryz.hv3 : Tryz.prog.globalNamed "stripes/record.halves" = some 2 := by kernel_rfl
theorem Tryz.hv3Type : (Tryz.prog.globals[2]?).map (·.type) = some 227 := by kernel_rfl
theorem Tryz.hv3Cells : Tryz.prog.cellsOf 227 = 16 := by kernel_rfl
theorem Tryz.u32Cells3 : Tryz.prog.cellsOf 213 = 1 := by kernel_rfl
theorem tab_data3 : (Rows.laid_math_bits_deBruijn64tab : DataW Unit) = Lib.tabData .u8 tabZ3 := by rfl
theorem hv_data3 : (Rows.laid_stripes_record_halves : DataW Unit) = Lib.tabData .u32 halvesZ := by rfl
theorem laid_tail {P : Program} {x : String × DataW Unit} {r : List (String × DataW Unit)} {w : World} (h : laidMet P (x :: r) w) : laidMet P r w := by
  obtain ⟨ps, hv, hnd, hrows⟩ := h
  obtain ⟨n, d⟩ := x
  obtain ⟨g, t, cs, fuel, p, q, _, _, _, _, hq, rfl⟩ := hv
  exact ⟨q, hq, List.Nodup.sublist (List.sublist_append_right _ _) hnd, fun b off hm => hrows b off (List.mem_append_right _ hm)⟩
theorem all_of_laid {W : World} (h : laidMetH Tryz.prog laids3 W) : globalLaid W ∧ tabLaid W ∧ hvLaid W ∧ 3 ≤ W.heap.size := by
  have h' : laidMet Tryz.prog [("math/bits.deBruijn64tab", Rows.laid_math_bits_deBruijn64tab), ("stripes/record.halves", Rows.laid_stripes_record_halves)] W ∧ handlesMet Tryz.prog [("errors.errorType", Rows.laid_errors_errorType)] W := h
  have hg : globalLaid W := handle_of_laid (show laidMetH Tryz.prog [("errors.errorType", Rows.laid_errors_errorType)] W from ⟨⟨[], rfl, List.nodup_nil, fun b off hb => by cases hb⟩, h'.2⟩)
  have hd := h'.1
  have hd2 := laid_tail hd
  rw [tab_data3] at hd
  rw [hv_data3] at hd2
  have ht := Lib.tabIs_of_head Tryz.bt3 Tryz.bt3Type Tryz.underlying156 Tryz.underlying5 Tryz.byteCells3 Tryz.bt3Cells hd
  have hh := Lib.tabIs_of_head Tryz.hv3 Tryz.hv3Type Tryz.underlying227 Tryz.underlying213 Tryz.u32Cells3 Tryz.hv3Cells hd2
  have htl : tabLaid W := fun j hj => by
    have := ht.cell Tryz.bt3 j (by simpa [tabZ3] using hj)
    rw [this]
    unfold tabZ3
    simp [hj]
  have hhl : hvLaid W := fun j hj => by
    have hl : halvesL.length = 16 := rfl
    have := hh.cell Tryz.hv3 j (by unfold halvesZ; rw [List.length_map, hl]; exact hj)
    rw [this]
    unfold halvesZ
    congr 2
    rw [List.getD_eq_getElem?_getD, List.getD_eq_getElem?_getD, List.getElem?_map, List.getElem?_eq_getElem (by omega)]
    rfl
  refine ⟨hg, htl, hhl, ?_⟩
  have h1 := block_lt_of_cell (htl 0 (by decide))
  have h2 := block_lt_of_cell (hhl 0 (by decide))
  have h3 : 1 < W.heap.size := h1
  have h4 : 2 < W.heap.size := h2
  omega
/-- a world that meets it -/
noncomputable def laidWorld3 (os : Os) : World :=
  { World.holding Tryz.prog os ⟨#[], #[], []⟩ with heap := (((World.holding Tryz.prog os ⟨#[], #[], []⟩).heap.modify 0 fun | .cells _ t frozen => .cells #[.iface 101 (.agg #[.pointer (some ⟨3, 29, none⟩)])] t frozen | o => o).modify 1 fun | .cells _ t frozen => .cells (tabZ3.map fun z => Value.int .u8 z).toArray t frozen | o => o).modify 2 fun | .cells _ t frozen => .cells (halvesZ.map fun z => Value.int .u32 z).toArray t frozen | o => o }
theorem laidWorld3_met (os : Os) (args : Array Value) : laidMetH Tryz.prog laids3 ((laidWorld3 os).forCall (fun _ _ => 0) ⟨#[], args, []⟩).memory :=
  laidMetH_of_parts (laidMet_of_run' 8 (by kernel_rfl) (by kernel_rfl)) (by kernel_rfl)
theorem trodAll_five {H : Type} {enc : TypeId × Value → H} {P : Program} {w : World} {base : Nat} {spare : Nat → Bool} {held : Bool} {t0 t1 t2 t3 t4 : TypeId} {args : Array Value} {ds : List (DataW H)} {ps : List MemPlace} (h : DataW.TrodAll enc P w base spare held [t0, t1, t2, t3, t4] args.toList ds ps) :
    ∃ v0 v1 v2 v3 v4 d0 d1 d2 d3 d4 p0 p1 p2 p3 p4, args = #[v0, v1, v2, v3, v4] ∧ ds = [d0, d1, d2, d3, d4] ∧ ps = p0 ++ p1 ++ p2 ++ p3 ++ p4 ∧ DataW.Trod enc P w base spare held t0 v0 d0 p0 ∧ DataW.Trod enc P w base spare held t1 v1 d1 p1 ∧ DataW.Trod enc P w base spare held t2 v2 d2 p2 ∧ DataW.Trod enc P w base spare held t3 v3 d3 p3 ∧ DataW.Trod enc P w base spare held t4 v4 d4 p4 := by
  obtain ⟨v, vs, d, ds', p, q, hargs, rfl, rfl, hd, hrest⟩ := trodAll_cons h
  obtain ⟨v', vs', d', ds'', p', q', rfl, rfl, rfl, hd', hrest'⟩ := trodAll_cons hrest
  obtain ⟨v'', vs'', d'', ds''', p'', q'', rfl, rfl, rfl, hd'', hrest''⟩ := trodAll_cons hrest'
  obtain ⟨v3, vs3, d3, ds3, p3, q3, rfl, rfl, rfl, hd3, hrest3⟩ := trodAll_cons hrest''
  obtain ⟨v4, vs4, d4, ds4, p4, q4, rfl, rfl, rfl, hd4, hrest4⟩ := trodAll_cons hrest3
  obtain ⟨rfl, rfl, rfl⟩ := trodAll_nil hrest4
  exact ⟨v, v', v'', v3, v4, d, d', d'', d3, d4, p, p', p'', p3, p4, by cases args; simp_all, rfl, by simp, hd, hd', hd'', hd3, hd4⟩
theorem trodAll_mk5 {H : Type} {enc : TypeId × Value → H} {P : Program} {w : World} {base : Nat} {spare : Nat → Bool} {held : Bool} {t0 t1 t2 t3 t4 : TypeId} {v0 v1 v2 v3 v4 : Value} {d0 d1 d2 d3 d4 : DataW H} {p0 p1 p2 p3 p4 : List MemPlace} (h0 : DataW.Trod enc P w base spare held t0 v0 d0 p0) (h1 : DataW.Trod enc P w base spare held t1 v1 d1 p1) (h2 : DataW.Trod enc P w base spare held t2 v2 d2 p2) (h3 : DataW.Trod enc P w base spare held t3 v3 d3 p3) (h4 : DataW.Trod enc P w base spare held t4 v4 d4 p4) :
    DataW.TrodAll enc P w base spare held [t0, t1, t2, t3, t4] [v0, v1, v2, v3, v4] [d0, d1, d2, d3, d4] (p0 ++ (p1 ++ (p2 ++ (p3 ++ p4)))) := ⟨p0, p1 ++ (p2 ++ (p3 ++ p4)), h0, trodAll_mk4 h1 h2 h3 h4, rfl⟩
end Go.Proofs.YtogdeaaphdlchaaGreatDoor
