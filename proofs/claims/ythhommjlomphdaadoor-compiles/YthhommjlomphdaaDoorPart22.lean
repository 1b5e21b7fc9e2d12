import Derived.Test.YthhommjlomphdaaDoorPart21
import Derived.Test.YthhommjlomphdaaDoorPart15
/-
  Run: the program's.
-/
namespace Go.Proofs.YthhommjlomphdaaDoor
open Go.RowKit Go.Deep Gf

theorem reg_load (P : List St) (D R0 : List (List Nat)) (k : Nat) (h : (stAt P k).k = 0) : regTo P D R0 (k + 1) = (regTo P D R0 k).set (stAt P k).a.toNat (D.getD (stAt P k).b.toNat []) ∧ outTo P D R0 (k + 1) = outTo P D R0 k := by
  simp [regTo, outTo, regStep, outStep, h]
theorem reg_add (P : List St) (D R0 : List (List Nat)) (k : Nat) (h : (stAt P k).k = 1) : regTo P D R0 (k + 1) = (regTo P D R0 k).set (stAt P k).a.toNat (addRow ((regTo P D R0 k).getD (stAt P k).a.toNat []) ((regTo P D R0 k).getD (stAt P k).b.toNat []) (stAt P k).c) ∧ outTo P D R0 (k + 1) = outTo P D R0 k := by
  simp [regTo, outTo, regStep, outStep, h]
theorem reg_put (P : List St) (D R0 : List (List Nat)) (k : Nat) (h : (stAt P k).k = 2) : regTo P D R0 (k + 1) = regTo P D R0 k ∧ outTo P D R0 (k + 1) = outTo P D R0 k ++ [((stAt P k).b, (regTo P D R0 k).getD (stAt P k).a.toNat [])] := by
  simp [regTo, outTo, regStep, outStep, h]
def RnR (w0 : World) (B : Nat) (P : List St) (D R0 : List (List Nat)) (n r gR : Nat) (vO iv : Value) (wr : World) : Prop :=
  ∃ k T O, k ≤ P.length ∧ iv = .int .i64 (k : Nat) ∧ Rn w0 B P D R0 n r gR k vO T O wr
def RnPost (regs : Int) (P : List St) (D : List (List Nat)) (gone : Nat) (w : World) (e : Ending) (w' : World) : Prop :=
  (okProg regs P D.length → ldsOk P D gone → ∃ v O, e = .returned (.tuple #[v, .nilIface]) ∧ Outs 95 w' w.heap.size v O ∧ O.map (fun q => (q.1, q.2.2.2.take q.2.2.1)) = outTo P D (regs0 regs.toNat (runLen P D)) P.length) ∧
  (okProg regs P D.length → ¬ ldsOk P D gone → e = .returned (.tuple #[.slice none 0 0, .iface 29 (.int .i64 2)])) ∧ (¬ okProg regs P D.length → e = .returned (.tuple #[.slice none 0 0, .iface 29 (.int .i64 4)])) ∧ Below w.heap.size w w'
theorem Outs.weaken {t : TypeId} {w : World} {base base' : Nat} {v : Value} {O : List (Int × Nat × Nat × List Nat)} (h : Outs t w base v O) (hb : base' ≤ base) : Outs t w base' v O :=
  ⟨ownsRow_weaken h.own hb, fun q hq => by obtain ⟨a, b⟩ := h.row q hq; exact ⟨by omega, b⟩, h.nodup⟩
theorem Tryd.infoOutput : (Tryd.prog.info? 95).map (fun i => (i.zero, i.size, i.bytes)) = some (some (.agg #[.int .i64 0, .slice none 0 0]), 2, 32) := by kernel_rfl
theorem two_new (w : World) (n : Nat) (hn : n = w.heap.size) (x y : Value) (t : TypeId) : ∀ j v, [x, y][j]? = some v → (w.alloc (.cells #[x, y] t)).cell? ((⟨n, 0, none⟩ : Addr).add j) = some v := by
  subst hn
  intro j v hv
  rw [add0]
  rcases j with _ | _ | j
  all_goals simp at hv
  all_goals subst hv; simp
theorem box4 (w : World) (k a b c : Value) (t : TypeId) : ∃ wb, w.alloc (.cells #[k, a, b, c] t) = wb ∧ Below w.heap.size w wb ∧ wb.heap.size = w.heap.size + 1 ∧ wb.cell? ⟨w.heap.size, 1, none⟩ = some a ∧ wb.cell? ⟨w.heap.size, 2, none⟩ = some b ∧ wb.cell? ⟨w.heap.size, 3, none⟩ = some c :=
  ⟨_, rfl, (Below.refl _ _).alloc (Nat.le_refl _) _, nblk_alloc _ _, by simp, by simp, by simp⟩
set_option maxRecDepth 100000 in
set_option maxHeartbeats 8000000 in
theorem run_any (regs : Int) (v : Value) (P : List St) (bi ci : Nat) (D : List (List Nat)) (gone : Nat) (w : World) (h : Ps .u8 w v P) (hP : ∀ s ∈ P, okInts s) (hI : In w bi D gone) (hbi : bi < w.heap.size) (hlen : ∀ l ∈ D, l.length ≤ 100000) (hl : P.length ≤ 5000) :
    Calls Tryd.prog 46 #[.agg #[.int .i64 regs, v], .slice (some ⟨bi, 0, none⟩) D.length ci] w fun e w' => RnPost regs P D gone w e w' := by
  obtain ⟨i0, hi0, hz0, hz1, hz2⟩ := info_parts Tryd.infoOutput
  have hb0 : Below w.heap.size w (w.alloc (.cells #[.int .i64 regs, v] 49)) := (Below.refl _ _).alloc (Nat.le_refl _) _
  have h0 := h.mono hb0
  obtain ⟨ao, c, rfl⟩ := h.slice
  go_enter Tryd.func46, Tryd.ntmps46
  go_wp2_with fail
  refine (check_any regs D.length _ P _ h0).mono ?_
  rintro e w1 ⟨hc1, hc2, hb1⟩
  rw [nblk_alloc] at hb1
  obtain ⟨p0, p1⟩ := box2 hb1 rfl
  have hs1 := hb1.size
  rw [nblk_alloc] at hs1
  have hbw1 := hb0.trans (hb1.mono (by omega))
  by_cases hok : okProg regs P D.length
  · have e1 := hc1 hok
    subst e1
    obtain ⟨⟨g0, g1, g2⟩, hst⟩ := id hok
    obtain ⟨r, rfl⟩ : ∃ r : Nat, regs = (r : Int) := ⟨regs.toNat, by omega⟩
    have HOK := hide hok
    have HST := hide hst
    have hr : ∀ i, i < P.length → (stAt P i).k = 0 → 0 ≤ (stAt P i).b ∧ (stAt P i).b < (D.length : Int) := by
      intro i hi hk
      rw [stAt_get P i hi] at *
      rcases hst i hi with h | h
      · exact ⟨h.2.2.2.1, h.2.2.2.2⟩
      · omega
    have hr32 : r ≤ 32 := by omega
    have h1 := h.mono hbw1
    have hI1 := hI.mono hbw1
    clear hok hst hc1 hc2 h0 hb1 hb0 g0 g1
    go_wp2_with fail
    refine (loadedLength_any _ P bi ci D gone w1 h1 hI1 hlen hr hl).mono ?_
    rintro e w2 ⟨hd1, hd2, hb2⟩
    have q0 := (hb2.cell (block_lt_of_cell p0)).trans p0
    have q1 := (hb2.cell (block_lt_of_cell p1)).trans p1
    have hbw2 := hbw1.trans (hb2.mono (by omega))
    have hs2 := hb2.size
    clear hr h1 hI1 p0 p1 hbw1 hb2
    by_cases hld : ldsOk P D gone
    · have e1 := hd1 hld
      subst e1
      have hnl := runLen_le hld
      have HLD := hide hld
      have HLN := hide (ld_len hld)
      clear hld hd1 hd2
      obtain ⟨n, hn⟩ : ∃ n, runLen P D = n := ⟨_, rfl⟩
      have HN := hide hn
      rw [hn] at hnl HLN
      rw [hn]
      clear hn
      go_wp2_with fail
      refine (makeRegs_any r n w2 hr32 hnl).mono ?_
      rintro e w3 ⟨gR, T0, rfl, hT0, hH0, hb3⟩
      have hs3 := hb3.size
      have q1' := (hb3.cell (block_lt_of_cell q1)).trans q1
      have hR0 : Rn w2 w2.heap.size P D (regs0 r n) n r gR 0 (.slice none 0 0) T0 [] w3 := ⟨hT0, hH0, fun l hl => by
        have := List.eq_of_mem_replicate (show l ∈ List.replicate r (List.replicate n 0) from hl)
        rw [this]; simp, Outs.nil _ _ _, rfl, fun p _ q hq => by simp at hq, hb3, hs3⟩
      have HR0 := hide hR0
      clear hR0 hT0 hH0 q0 q1
      go_wp2
      clear q1'
      go_loopw [10, 37] (fun vO iv wr => RnR w2 w2.heap.size P D (regs0 r n) n r gR vO iv wr) (fun _ iv _ => P.length - (intOf iv).toNat)
      case atStart => exact ⟨0, T0, [], Nat.zero_le _, rfl, HR0.out⟩
      case round =>
        clear HR0
        rename World => wo
        obtain ⟨k, T, O, hk, rfl, hR⟩ := hrel
        have hso := hR.size
        have hbo := hbw2.trans (hR.below.mono (by omega))
        by_cases hlt : k < P.length
        · rcases (h.mono hbo).cases with ⟨rfl, _⟩ | ⟨b, off, cc, e, _, hc⟩
          · simp at hlt
          simp at e
          obtain ⟨rfl, rfl⟩ := e
          obtain ⟨d0, d1, d2, d3⟩ := hc k hlt
          have hst := HST.out k hlt
          unfold okStep at hst
          have hin := hP _ (List.getElem_mem hlt)
          have hstk := stAt_get P k hlt
          have HRL := hide (reg_load P D (regs0 r n) k)
          have HRA := hide (reg_add P D (regs0 r n) k)
          have HRP := hide (reg_put P D (regs0 r n) k)
          have HLK := hide (HLD.out k hlt)
          have HNK := hide (HLN.out k hlt)
          have HLKD : Hid (ldOk P D gone k ↔ ((stAt P k).k = 0 → ¬ goneB gone (stAt P k).b.toNat ∧ fl P D (k + 1) = some (D.getD (stAt P k).b.toNat []).length ∧ (D.getD (stAt P k).b.toNat []).length ≤ 4096)) := Iff.rfl
          rw [hstk] at HRL HRA HRP HNK HLKD
          have HIO := hide (hI.mono hbo)
          have HC := hide hc
          have HR := hide hR
          have HI := hide hI
          have HH := hide h
          have HPP := hide hP
          clear hc hR hI h hP hstk
          have hsc := hin.2.2.2.2.2
          clear hin
          generalize P[k].k = sk at *
          generalize P[k].a = sa at *
          generalize P[k].b = sb at *
          generalize P[k].c = sc at *
          obtain ⟨wb, hwb, hbb, hsb, b1, b2, b3⟩ := box4 wo (.int .u8 (sk : Int)) (.int .i64 sa) (.int .i64 sb) (.int .u8 (sc : Int)) 92
          have HRB := hide (HR.out.next hbb)
          rcases hst with ⟨hk02, a0, a1, x0, x1⟩ | ⟨hk1, a0, a1, x0, x1, hne⟩
          · obtain ⟨A, rfl⟩ : ∃ A : Nat, sa = (A : Int) := ⟨sa.toNat, by omega⟩
            obtain ⟨X, rfl⟩ : ∃ X : Nat, sb = (X : Int) := ⟨sb.toNat, by omega⟩
            have hA : A < r := by omega
            have hX : X < D.length := by omega
            obtain ⟨g, hTA, t1, t2, t3, t4, t5, t6, t7, t8, t9⟩ := HR.out.reg A hA
            replace t1 := (hbb.cell (block_lt_of_cell t1)).trans t1
            replace t2 := t2.below hbb
            rw [Int.toNat_natCast, Int.toNat_natCast] at HRL
            rw [Int.toNat_natCast] at HRP
            rcases hk02 with rfl | rfl
            · have hwb0 : Hid (wo.alloc (.cells #[.int .u8 0, .int .i64 (A : Int), .int .i64 (X : Int), .int .u8 (sc : Int)] 92) = wb) := hwb
              have hgx : D.getD X [] = D[X] := by simp [hX]
              have hlk := HLKD.out.1 HLK.out rfl
              have hnk := HNK.out rfl
              rw [Int.toNat_natCast, hgx] at hlk hnk
              rw [hgx] at HRL
              obtain ⟨ax, cx, u1, u2⟩ := (HIO.out X hX).2 hlk.1
              have u1' := (hbb.cell (block_lt_of_cell u1)).trans u1
              have u2' := u2.mono hbb
              have hxD : ∀ x ∈ D[X], x < 256 := by
                obtain ⟨_, _, _, _, _, h, _⟩ := u2
                exact h
              obtain ⟨wc, hrun, hBc, hgc⟩ := copy_run wb.drew 3 g n n _ D[X] (some ax) cx t2 u2' hnk t3
              have HW := hide ((HRB.out.next (show Below wb.heap.size wb wb.drew from ⟨rfl, rfl, rfl, Nat.le_refl _, fun _ _ => rfl⟩)).write hTA t3 hgc hBc hnk hxD (HRL.out rfl).1 (HRL.out rfl).2)
              rw [hnk] at u1' hrun
              have HRUN := hide hrun
              have z1 := hgc.cell (show wb.drew.cell? ⟨wo.heap.size, 1, none⟩ = _ from b1) (by simp; omega)
              have z2 := hgc.cell (show wb.drew.cell? ⟨wo.heap.size, 2, none⟩ = _ from b2) (by simp; omega)
              have z3 := hgc.cell (show wb.drew.cell? ⟨gR, A, none⟩ = _ from t1) (by simp; omega)
              have z4 := hgc.cell (show wb.drew.cell? ⟨bi, X, none⟩ = _ from u1') (by simp; omega)
              clear hrun hBc hgc u1 u2 u2' hTA t2 t3 t4 HRL HRA HRP HLK HNK HLKD hlk hxD hwb
              go_wp2
              rw [hwb0.out]
              go_region_held3 (fun w' => w'.cell? ⟨wo.heap.size, 1, none⟩ = some (.int .i64 (A : Int)) ∧ w'.cell? ⟨wo.heap.size, 2, none⟩ = some (.int .i64 (X : Int)) ∧ w'.cell? ⟨gR, A, none⟩ = some (.slice (some ⟨g, 0, none⟩) n n) ∧ w'.cell? ⟨bi, X, none⟩ = some (.slice (some ax) n cx)) (first | exact ⟨b1, b2, t1, u1'⟩ | exact ⟨z1, z2, z3, z4⟩) (refine step_copy rfl (.tmp 49) (.tmp 54) rfl _ _ _ rfl rfl HRUN.out ?_)
              go_wp2
              go_roundw
              case rel =>
                obtain ⟨T', hT'⟩ := HW.out
                exact ⟨k + 1, T', O, by omega, by go_num, hT'⟩
              case measure => simp [intOf]; omega
            · have hwb0 : Hid (wo.alloc (.cells #[.int .u8 2, .int .i64 (A : Int), .int .i64 (X : Int), .int .u8 (sc : Int)] 92) = wb) := hwb
              have hRd := HRB.out.next (show Below wb.heap.size wb wb.drew from ⟨rfl, rfl, rfl, Nat.le_refl _, fun _ _ => rfl⟩)
              have hol := hRd.olen
              have hcl := clone_some ⟨g, 0, none⟩ n _ wb.drew (by have := Bs.of_row (n := n) (show Brow wb.drew g _ from t2) (by omega) (by omega) t4; rw [List.take_of_length_le (by omega), t3] at this; rw [t3]; exact this) (by omega)
              rw [t3] at hcl
              have HCL := hide hcl
              have HRD := hide hRd
              have HPT := hide (HRP.out rfl)
              have HT3 := hide t3
              have HT4 := hide t4
              have HLT := hide (fun j hj => (HR.out.outs.own.lt j hj).2)
              have HNE := hide (tab_out_ne HR.out.tab.own HR.out.outs.own)
              have z1 : wb.drew.cell? ⟨wo.heap.size, 1, none⟩ = some (.int .i64 (A : Int)) := b1
              have z2 : wb.drew.cell? ⟨wo.heap.size, 2, none⟩ = some (.int .i64 (X : Int)) := b2
              have z3 : wb.drew.cell? ⟨gR, A, none⟩ = some (.slice (some ⟨g, 0, none⟩) n n) := t1
              clear hcl hRd hTA t2 t3 t4 HRL HRA HRP HLK HNK HLKD hwb
              go_wp2
              rw [hwb0.out]
              go_region_held3 (fun w' => w'.cell? ⟨wo.heap.size, 1, none⟩ = some (.int .i64 (A : Int)) ∧ w'.cell? ⟨wo.heap.size, 2, none⟩ = some (.int .i64 (X : Int)) ∧ w'.cell? ⟨gR, A, none⟩ = some (.slice (some ⟨g, 0, none⟩) n n)) (first | exact ⟨b1, b2, t1⟩ | exact ⟨y1, y2, y3⟩ | exact ⟨(((Below.refl _ _).alloc (Nat.le_refl _) _).cell (block_lt_of_cell y1)).trans y1, (((Below.refl _ _).alloc (Nat.le_refl _) _).cell (block_lt_of_cell y2)).trans y2, (((Below.refl _ _).alloc (Nat.le_refl _) _).cell (block_lt_of_cell y3)).trans y3⟩ | exact ⟨x1', x2', x3'⟩)
                (first
                  | (go_at_call 68; refine HCL.out.mono ?_; rintro e wd ⟨bd, m, rfl, hbd, hBd, hmd, hbld⟩
                     have y1 := (hbld.cell (block_lt_of_cell z1)).trans z1
                     have y2 := (hbld.cell (block_lt_of_cell z2)).trans z2
                     have y3 := (hbld.cell (block_lt_of_cell z3)).trans z3)
                  | (refine step_append_lies _ rfl (.tmp 73) (.tmp 83) 60 rfl w2.heap.size 95 i0 (.agg #[.int .i64 0, .slice none 0 0]) 2 32 Tryd.underlying60 hi0 hz0 hz1 hz2 rfl (by decide) u10 O.length (outc O) rfl ((HRD.out.next hbld).next ((Below.refl _ _).alloc (Nat.le_refl _) _)).outs.own ⟨wd.heap.size, 0, none⟩ 1 1 [.int .i64 (X : Int), .slice (some ⟨bd, 0, none⟩) n (n + m)] rfl rfl (two_new _ _ rfl _ _ _) (by intro q hq; simp at hq; rcases hq with rfl | rfl <;> rfl) (by omega) (by unfold maxLen; omega) (by omega) (by have := ((HRD.out.next hbld).next ((Below.refl _ _).alloc (Nat.le_refl _) (.cells #[.int .i64 (X : Int), .slice (some ⟨bd, 0, none⟩) n (n + m)] 95))).size; exact this) _ rfl ?_; intro g5 cap5 w5 hown5 hgr5 hat5 hlt5
                     have x1' := hgr5.cell ((((Below.refl _ _).alloc (Nat.le_refl _) _).cell (block_lt_of_cell y1)).trans y1) (fun e => by have := HLT.out _ e.symm; simp at this)
                     have x2' := hgr5.cell ((((Below.refl _ _).alloc (Nat.le_refl _) _).cell (block_lt_of_cell y2)).trans y2) (fun e => by have := HLT.out _ e.symm; simp at this)
                     have x3' := hgr5.cell ((((Below.refl _ _).alloc (Nat.le_refl _) _).cell (block_lt_of_cell y3)).trans y3) (fun e => HNE.out e.symm)))
              go_wp2
              go_roundw
              case rel => exact ⟨k + 1, T, _, by omega, by go_num, HRD.out.put hbld hbd hBd HT3.out (by omega) hmd HT4.out hgr5 hown5 HPT.out.1 HPT.out.2⟩
              case measure => simp [intOf]; omega
          · obtain ⟨A, rfl⟩ : ∃ A : Nat, sa = (A : Int) := ⟨sa.toNat, by omega⟩
            obtain ⟨X, rfl⟩ : ∃ X : Nat, sb = (X : Int) := ⟨sb.toNat, by omega⟩
            have hA : A < r := by omega
            have hX : X < r := by omega
            have hAX : A ≠ X := by omega
            obtain ⟨g, hTA, t1, t2, t3, t4, t5, t6, t7, t8, t9⟩ := HR.out.reg A hA
            obtain ⟨g', hTX, s1, s2, s3, s4, s5, s6, s7, s8, s9⟩ := HR.out.reg X hX
            have hgg := HR.out.reg_ne hTA hTX hAX
            replace t1 := (hbb.cell (block_lt_of_cell t1)).trans t1
            replace t2 := t2.below hbb
            replace s1 := (hbb.cell (block_lt_of_cell s1)).trans s1
            replace s2 := s2.below hbb
            rw [Int.toNat_natCast, Int.toNat_natCast] at HRA
            subst hk1
            have hwb0 : Hid (wo.alloc (.cells #[.int .u8 1, .int .i64 (A : Int), .int .i64 (X : Int), .int .u8 (sc : Int)] 92) = wb) := hwb
            have hRd := HRB.out.next (show Below wb.heap.size wb wb.drew from ⟨rfl, rfl, rfl, Nat.le_refl _, fun _ _ => rfl⟩)
            have HADD := hide (addTimes_row g g' n sc _ _ wb.drew hsc t2 s2 t3 s3 hgg t4 s4 (by omega))
            have HRD := hide hRd
            have HAD := hide (HRA.out rfl)
            have HTA := hide hTA
            have HT3 := hide t3
            have HT4 := hide t4
            have z1 : wb.drew.cell? ⟨wo.heap.size, 1, none⟩ = some (.int .i64 (A : Int)) := b1
            have z2 : wb.drew.cell? ⟨wo.heap.size, 2, none⟩ = some (.int .i64 (X : Int)) := b2
            have z3 : wb.drew.cell? ⟨wo.heap.size, 3, none⟩ = some (.int .u8 (sc : Int)) := b3
            have z4 : wb.drew.cell? ⟨gR, A, none⟩ = some (.slice (some ⟨g, 0, none⟩) n n) := t1
            have z5 : wb.drew.cell? ⟨gR, X, none⟩ = some (.slice (some ⟨g', 0, none⟩) n n) := s1
            clear hRd hTA hTX t2 t3 t4 s2 s3 s4 HRL HRA HRP HLK HNK HLKD hwb
            go_wp2
            rw [hwb0.out]
            go_region_held3 (fun w' => w'.cell? ⟨wo.heap.size, 1, none⟩ = some (.int .i64 (A : Int)) ∧ w'.cell? ⟨wo.heap.size, 2, none⟩ = some (.int .i64 (X : Int)) ∧ w'.cell? ⟨wo.heap.size, 3, none⟩ = some (.int .u8 (sc : Int)) ∧ w'.cell? ⟨gR, A, none⟩ = some (.slice (some ⟨g, 0, none⟩) n n) ∧ w'.cell? ⟨gR, X, none⟩ = some (.slice (some ⟨g', 0, none⟩) n n)) (first | exact ⟨b1, b2, b3, t1, s1⟩ | exact ⟨y1, y2, y3, y4, y5⟩)
              (first
                | (go_at_call 67; refine HADD.out.mono ?_; rintro e wc ⟨rfl, hBc, hgc⟩
                   have y1 := hgc.cell z1 (by simp; omega)
                   have y2 := hgc.cell z2 (by simp; omega)
                   have y3 := hgc.cell z3 (by simp; omega)
                   have y4 := hgc.cell z4 (by simp; omega)
                   have y5 := hgc.cell z5 (by simp; omega)))
            go_wp2
            go_roundw
            case rel =>
              obtain ⟨T', hT'⟩ := HRD.out.write HTA.out HT3.out hgc hBc (by rw [addRow_len]; exact HT3.out) (addRow_lt HT4.out hsc) HAD.out.1 HAD.out.2
              exact ⟨k + 1, T', O, by omega, by go_num, hT'⟩
            case measure => simp [intOf]; omega
        · have hkk : k = P.length := by omega
          subst hkk
          have HR := hide hR
          clear hR h hP hI
          go_wp2
          go_ret2
          refine ⟨fun _ _ => ⟨_, O, rfl, HR.out.outs.weaken (by omega), ?_⟩, fun _ hl => absurd HLD.out hl, fun hn => absurd HOK.out hn, hbo⟩
          rw [HN.out, Int.toNat_natCast]
          exact HR.out.vals
    · have e1 := hd2 hld
      subst e1
      have HLD := hide hld
      clear hld hd1 hd2
      go_wp2
      go_ret2
      exact ⟨fun _ hl => absurd hl HLD.out, fun _ _ => rfl, fun hn => absurd HOK.out hn, hbw2⟩
  · have e1 := hc2 hok
    subst e1
    have HN := hide hok
    clear hok hc1 hc2 h0 h hP hI hb1 hb0
    go_wp2
    go_ret2
    exact ⟨fun hp => absurd hp HN.out, fun hp => absurd hp HN.out, fun _ => rfl, hbw1⟩
end Go.Proofs.YthhommjlomphdaaDoor
/-
  Check: the document's.
-/
namespace Go.Proofs.YthhommjlomphdaaDoor
open Go.RowKit Go.Deep

def RcPost (regs : Int) (P : List St) (shards : Int) (w : World) (r : Ending) (w' : World) : Prop := (okProg regs P shards → r = .returned (.int .i64 0)) ∧ (¬ okProg regs P shards → r = .returned (.int .i64 4)) ∧ Below w.heap.size w w'
set_option maxRecDepth 100000 in
set_option maxHeartbeats 4000000 in
theorem rcheck_any (regs shards : Int) (v : Value) (P : List St) (w : World) (h : Ps .i64 w v P) :
    Calls Tryd.prog 25 #[.agg #[.int .i64 regs, v], .int .i64 shards] w fun r w' => RcPost regs P shards w r w' := by
  have hb0 : Below w.heap.size w (w.alloc (.cells #[.int .i64 regs, v] 53)) := (Below.refl _ _).alloc (Nat.le_refl _) _
  obtain ⟨ao, c, rfl⟩ := h.slice
  by_cases hh : okHead regs P
  · have HH := hide hh
    obtain ⟨g0, g1, g2⟩ := hh
    obtain ⟨w1, hw1, hx⟩ : ∃ w1, w.alloc (.cells #[.int .i64 regs, .slice ao P.length c] 53) = w1 ∧ w1.heap[w.heap.size]? = some (.cells #[.int .i64 regs, .slice ao P.length c] 53 (0, 0)) := ⟨_, rfl, heap_alloc_last w _⟩
    have h1 := h.mono hb0
    have hs1 : w1.heap.size = w.heap.size + 1 := by rw [← hw1, nblk_alloc]
    go_enter Tryd.func25, Tryd.ntmps25
    rw [hw1] at hb0 h1
    obtain ⟨p0, p1, _, _⟩ := obj_cells hx
    go_wp2
    clear hw1 h
    go_loopw [5] (fun i wr => ChR w1 regs shards P i wr) (fun i _ => P.length - (intOf i).toNat)
    case atStart => exact ⟨0, Nat.zero_le _, rfl, fun j _ hj => absurd hj (by omega), Below.refl _ _⟩
    case round =>
      rename World => wo
      obtain ⟨k, hk, rfl, hok, hbo⟩ := hrel
      have q0 := (hbo.cell (block_lt_of_cell p0)).trans p0
      have q1 := (hbo.cell (block_lt_of_cell p1)).trans p1
      have hso := hbo.size
      by_cases hlt : k < P.length
      · rcases (h1.mono hbo).cases with ⟨rfl, _⟩ | ⟨b, off, c', e, _, hc⟩
        · simp at hlt
        simp at e
        obtain ⟨rfl, rfl⟩ := e
        obtain ⟨c0, c1, c2, c3⟩ := hc k hlt
        obtain ⟨w2, hw2, hx2, hbo2, z0⟩ : ∃ w2, wo.alloc (.cells #[.int .i64 P[k].k, .int .i64 P[k].a, .int .i64 P[k].b, .int .u8 P[k].c] 94) = w2 ∧ w2.heap[wo.heap.size]? = some (.cells #[.int .i64 P[k].k, .int .i64 P[k].a, .int .i64 P[k].b, .int .u8 P[k].c] 94 (0, 0)) ∧ Below w1.heap.size w1 w2 ∧ w2.cell? ⟨w.heap.size, 0, none⟩ = some (.int .i64 regs) :=
          ⟨_, rfl, heap_alloc_last wo _, hbo.alloc hbo.size _, (((Below.refl wo.heap.size wo).alloc (Nat.le_refl _) _).cell (block_lt_of_cell q0)).trans q0⟩
        have z1 : w2.cell? ⟨wo.heap.size, 0, none⟩ = some (.int .i64 P[k].k) := by simp [World.cell?, hx2]
        have z2 : w2.cell? ⟨wo.heap.size, 1, none⟩ = some (.int .i64 P[k].a) := by simp [World.cell?, hx2]
        have z3 : w2.cell? ⟨wo.heap.size, 2, none⟩ = some (.int .i64 P[k].b) := by simp [World.cell?, hx2]
        have HC := hide hc
        have HOK := hide hok
        have HST : Hid (okStep P[k] regs shards ↔ (P[k].k = 0 ∨ P[k].k = 2) ∧ 0 ≤ P[k].a ∧ P[k].a < regs ∧ 0 ≤ P[k].b ∧ P[k].b < shards ∨ P[k].k = 1 ∧ 0 ≤ P[k].a ∧ P[k].a < regs ∧ 0 ≤ P[k].b ∧ P[k].b < regs ∧ P[k].a ≠ P[k].b) := Iff.rfl
        clear hc hok h1 hbo hx2
        generalize P[k].k = sk at *
        generalize P[k].a = sa at *
        generalize P[k].b = sb at *
        have e0 : ¬ ((sk : Int) < 0) := by omega
        go_wp2
        all_goals first
          | (go_ret
             refine ⟨fun hp => ?_, fun _ => rfl, hb0.trans (hbo2.mono (by omega))⟩
             exfalso
             have h1 := HST.out.1 (hp.2 k hlt)
             simp at *
             omega)
          | skip
        all_goals
          have hst : okStep P[k] regs shards := HST.out.2 (by
            clear HST HC HOK
            simp at *
            omega)
          refine ⟨⟨k + 1, by omega, by go_num, fun j hj hjk => ?_, hbo2⟩, by simp [intOf]; omega⟩
          by_cases e : j = k
          · subst e; exact hst
          · exact HOK.out j hj (by omega)
      · have hkk : k = P.length := by omega
        subst hkk
        have HOK := hide hok
        clear hok h1
        go_wp2
        go_ret
        exact ⟨fun _ => rfl, fun hp => absurd ⟨HH.out, fun i hi => HOK.out i hi hi⟩ hp, hb0.trans (hbo.mono (by omega))⟩
  · have HN := hide (show ¬ okProg regs P shards from fun hp => hh hp.1)
    have HH := hide hh
    clear hh
    go_enter Tryd.func25, Tryd.ntmps25
    go_wp2
    all_goals first
      | (go_ret; exact ⟨fun hp => absurd hp HN.out, fun _ => rfl, hb0⟩)
      | (exfalso; have := HH.out; unfold okHead at this; omega)
end Go.Proofs.YthhommjlomphdaaDoor
