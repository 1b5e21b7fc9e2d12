/-
  Run: the document's.
-/
import Derived.Test.YthhommjlomphdaaDoorPart21
import Derived.Test.YthhommjlomphdaaDoorPart22
import Derived.Test.YthhommjlomphdaaDoorRefEncode
import Derived.Deep.CutRange
namespace Go.Proofs.YthhommjlomphdaaDoor
open Go.RowKit Go.Deep Gf

def goneV (gone i : Nat) : Bool := decide (gone / 2 ^ i % 2 = 1)
theorem goneV_iff (gone i : Nat) : goneV gone i = true ↔ goneB gone i := by simp [goneV, goneB]
/-- which shards are nil, as a list of words -/
def Gn (w : World) (v : Value) (N gone : Nat) : Prop := ∃ an cn, v = .slice an N cn ∧ ∀ i, i < N → ∃ nb, an = some ⟨nb, 0, none⟩ ∧ w.cell? ⟨nb, i, none⟩ = some (.bool (goneV gone i))
theorem Gn.mono {w w' : World} {v : Value} {N gone : Nat} (h : Gn w v N gone) (hb : Below w.heap.size w w') : Gn w' v N gone := by
  obtain ⟨an, cn, e, hc⟩ := h
  refine ⟨an, cn, e, fun i hi => ?_⟩
  obtain ⟨nb, e2, hcell⟩ := hc i hi
  exact ⟨nb, e2, by rw [hb.cell (block_lt_of_cell hcell)]; exact hcell⟩
def flI (P : List St) (D : List (List Nat)) (k : Nat) : Int := match fl P D k with | none => -1 | some m => (m : Int)
theorem flI_none {P : List St} {D : List (List Nat)} {k : Nat} (h : fl P D k = none) : flI P D k = -1 := by simp [flI, h]
theorem flI_some {P : List St} {D : List (List Nat)} {k m : Nat} (h : fl P D k = some m) : flI P D k = (m : Int) := by simp [flI, h]
def RlR (w : World) (P : List St) (D : List (List Nat)) (gone : Nat) (nv iv : Value) (wr : World) : Prop :=
  ∃ k : Nat, k ≤ P.length ∧ iv = .int .i64 k ∧ nv = .int .i64 (flI P D k) ∧ (∀ i, i < k → ldOk P D gone i) ∧ Below w.heap.size w wr
def addPart (x y : List Nat) (c j : Nat) : List Nat := (List.range x.length).map fun i => if i < j then x.getD i 0 ^^^ gm c (y.getD i 0) else x.getD i 0
theorem addPart_len (x y : List Nat) (c j : Nat) : (addPart x y c j).length = x.length := by simp [addPart]
theorem addPart_zero (x y : List Nat) (c : Nat) : addPart x y c 0 = x := by
  apply List.ext_getElem
  · simp [addPart]
  · intro i h1 h2
    simp [addPart, h2]
theorem addPart_full (x y : List Nat) (c : Nat) : addPart x y c x.length = addRow x y c := by
  apply List.ext_getElem
  · simp [addPart, addRow]
  · intro i h1 h2
    have h3 : i < x.length := by simpa [addPart] using h1
    simp [addPart, addRow, h3]
theorem addPart_get (x y : List Nat) (c j : Nat) (hj : j < x.length) : (addPart x y c j).getD j 0 = x.getD j 0 := by
  simp [addPart, hj]
theorem addPart_step (x y : List Nat) (c j : Nat) : (addPart x y c j).set j (x.getD j 0 ^^^ gm c (y.getD j 0)) = addPart x y c (j + 1) := by
  apply List.ext_getElem
  · simp [addPart]
  · intro i h1 h2
    have h3 : i < x.length := by simpa [addPart] using h1
    simp only [addPart, List.getElem_set, List.getElem_map, List.getElem_range]
    by_cases e : j = i
    · subst e; simp
    · rw [if_neg e]
      by_cases h : i < j
      · rw [if_pos h, if_pos (by omega)]
      · rw [if_neg h, if_neg (by omega)]
def ApR (w : World) (g : Nat) (x y : List Nat) (c n : Nat) (iv : Value) (wr : World) : Prop := ∃ j : Nat, j ≤ n ∧ iv = .int .i64 j ∧ Brow wr g (addPart x y c j) ∧ w.grownBy wr (some g)
def Rg2 (w : World) (r n : Nat) (vR iv : Value) (wr : World) : Prop := ∃ k T, k ≤ r ∧ iv = .int .i64 (k : Nat) ∧ Tab wr w.heap.size vR T ∧ Holds T n (regs0 k n) ∧ Below w.heap.size w wr
def RnR2 (w0 : World) (B : Nat) (P : List St) (D R0 : List (List Nat)) (n r : Nat) (vR vO iv : Value) (wr : World) : Prop :=
  ∃ k T O, k ≤ P.length ∧ iv = .int .i64 (k : Nat) ∧ Rf.Rn w0 B P D R0 n r vR k vO T O wr
theorem Tryd.infoROutput : (Tryd.prog.info? 78).map (fun i => (i.zero, i.size, i.bytes)) = some (some (.agg #[.int .i64 0, .slice none 0 0]), 2, 32) := by kernel_rfl
def RrPost (regs : Int) (P : List St) (D : List (List Nat)) (gone : Nat) (w : World) (e : Ending) (w' : World) : Prop :=
  (okProg regs P D.length → ldsOk P D gone → ∃ v O, e = .returned (.tuple #[v, .int .i64 0]) ∧ Outs 78 w' w.heap.size v O ∧ O.map (fun q => (q.1, q.2.2.2.take q.2.2.1)) = outTo P D (regs0 regs.toNat (runLen P D)) P.length) ∧
  (okProg regs P D.length → ¬ ldsOk P D gone → e = .returned (.tuple #[.slice none 0 0, .int .i64 2])) ∧ (¬ okProg regs P D.length → e = .returned (.tuple #[.slice none 0 0, .int .i64 4])) ∧ Below w.heap.size w w'
set_option maxRecDepth 100000 in
set_option maxHeartbeats 16000000 in
theorem rrun_any (regs : Int) (v vd vn : Value) (P : List St) (D : List (List Nat)) (gone : Nat) (w : World) (h : Ps .i64 w v P) (hP : ∀ s ∈ P, okInts s) (hD : Rd w vd D) (hG : Gn w vn D.length gone) (hlen : ∀ l ∈ D, l.length ≤ 100000) (hl : P.length ≤ 5000) :
    Calls Tryd.prog 28 #[.agg #[.int .i64 regs, v], vd, vn] w fun e w' => RrPost regs P D gone w e w' := by
  obtain ⟨i0, hi0, hz0, hz1, hz2⟩ := info_parts Tryd.infoBytes
  obtain ⟨j0, hj0, hy0, hy1, hy2⟩ := info_parts Tryd.infoROutput
  have hb0 : Below w.heap.size w (w.alloc (.cells #[.int .i64 regs, v] 53)) := (Below.refl _ _).alloc (Nat.le_refl _) _
  have h0 := h.mono hb0
  obtain ⟨ao, c, rfl⟩ := h.slice
  obtain ⟨ad, cd, rfl, _⟩ := id hD
  obtain ⟨an, cn, rfl, hGc⟩ := id hG
  clear hGc
  go_enter Tryd.func28, Tryd.ntmps28
  go_wp2_with fail
  refine (rcheck_any regs D.length _ P _ h0).mono ?_
  rintro e w1 ⟨hc1, hc2, hb1⟩
  rw [nblk_alloc] at hb1
  obtain ⟨p0, p1⟩ := box2 hb1 rfl
  have hs1 := hb1.size
  rw [nblk_alloc] at hs1
  have hbw1 := hb0.trans (hb1.mono (by omega))
  by_cases hok : okProg regs P D.length
  · have e1 := hc1 hok
    subst e1
    obtain ⟨⟨g0, g1, g2⟩, hst⟩ := id hok
    obtain ⟨r, rfl⟩ : ∃ r : Nat, regs = (r : Int) := ⟨regs.toNat, by omega⟩
    have HOK := hide hok
    have HST := hide hst
    have hr32 : r ≤ 32 := by omega
    clear hok hst hc1 hc2 h0 hb1 hb0 g0 g1
    go_wp2
    go_loopw [9, 10] (fun nv iv wr => RlR w1 P D gone nv iv wr) (fun _ iv _ => P.length - (intOf iv).toNat)
    case atStart => exact ⟨0, Nat.zero_le _, rfl, rfl, fun i hi => absurd hi (by omega), Below.refl _ _⟩
    case round =>
      rename World => wo
      obtain ⟨k, hk, rfl, rfl, hok, hbo⟩ := hrel
      have hso := hbo.size
      have q0 := (hbo.cell (block_lt_of_cell p0)).trans p0
      have q1 := (hbo.cell (block_lt_of_cell p1)).trans p1
      have hbwo := hbw1.trans (hbo.mono (by omega))
      by_cases hlt : k < P.length
      · rcases (h.mono hbwo).cases with ⟨rfl, _⟩ | ⟨b, off, cc, e, _, hc⟩
        · simp at hlt
        simp at e
        obtain ⟨rfl, rfl⟩ := e
        obtain ⟨d0, d1, d2, d3⟩ := hc k hlt
        have hst := HST.out k hlt
        unfold okStep at hst
        have hstk := stAt_get P k hlt
        have HOKS := hide hok
        have HFS := hide (fl_some P D k)
        have HFL := hide (fl_load P D k)
        have HFO := hide (fl_other P D k)
        have HLD : Hid (ldOk P D gone k ↔ ((stAt P k).k = 0 → ¬ goneB gone (stAt P k).b.toNat ∧ fl P D (k + 1) = some (D.getD (stAt P k).b.toNat []).length ∧ (D.getD (stAt P k).b.toNat []).length ≤ 4096)) := Iff.rfl
        rw [hstk] at HFL HFO HLD
        have hbo2 := hbo.alloc hso (.cells #[.int .i64 P[k].k, .int .i64 P[k].a, .int .i64 P[k].b, .int .u8 P[k].c] 94)
        have HDO := hide (hD.mono (hbw1.trans (hbo2.mono (by omega))))
        have HGO := hide (hG.mono (hbw1.trans (hbo2.mono (by omega))))
        have hbw2 := hbw1.trans (hbo2.mono (by omega))
        have HC := hide hc
        have HD := hide hD
        have HG := hide hG
        have HH := hide h
        have HPP := hide hP
        clear hc hok hD hG h hP hstk hbo
        generalize P[k].k = sk at *
        generalize P[k].a = sa at *
        generalize P[k].b = sb at *
        generalize P[k].c = sc at *
        by_cases k0 : sk = 0
        · have tk : ((sk : Int) != 0) = false := by simp [k0]
          have hb : 0 ≤ sb ∧ sb < (D.length : Int) := by
            rcases hst with h | h
            · exact ⟨h.2.2.2.1, h.2.2.2.2⟩
            · omega
          have K0 := hide k0
          clear k0 hst
          obtain ⟨x, rfl⟩ : ∃ x : Nat, sb = (x : Int) := ⟨sb.toNat, by omega⟩
          have hx : x < D.length := by omega
          have hgx : D.getD x [] = D[x] := by simp [hx]
          have hbd := hlen _ (List.getElem_mem hx)
          rw [Int.toNat_natCast, hgx] at HFL HLD
          rcases HDO.out.cases with ⟨hDn, _⟩ | ⟨db, doff, dc, e, _, hdc⟩
          · rw [hDn] at hx; simp at hx
          simp at e
          obtain ⟨rfl, rfl⟩ := e
          obtain ⟨u, hu, hBu⟩ := hdc x hx
          obtain ⟨au, cu, rfl, _⟩ := hBu
          obtain ⟨an', cn', e, hgc⟩ := id HGO.out
          simp at e
          obtain ⟨rfl, rfl⟩ := e
          obtain ⟨nb, rfl, hnc⟩ := hgc x hx
          have hgi := goneV_iff gone x
          have HGI := hide hgi
          clear hgi hdc hgc hb HFO
          generalize D[x].length = n at *
          by_cases hg : goneV gone x = true
          · have HB : Hid (¬ ldsOk P D gone) := fun hl => ((HLD.out.1 (hl k hlt)) K0.out).1 (HGI.out.1 hg)
            rw [hg] at hnc
            clear HLD HFL HFS
            cases hf : fl P D k with
            | none =>
              rw [flI_none hf]
              go_wp2
              go_ret2
              exact ⟨fun _ hl => absurd hl HB.out, fun _ _ => rfl, fun hn => absurd HOK.out hn, hbw2⟩
            | some m =>
              rw [flI_some hf]
              go_wp2
              go_ret2
              exact ⟨fun _ hl => absurd hl HB.out, fun _ _ => rfl, fun hn => absurd HOK.out hn, hbw2⟩
          · have hgf : goneV gone x = false := by simpa using hg
            have HNG : Hid (¬ goneB gone x) := fun hh => hg (HGI.out.2 hh)
            rw [hgf] at hnc
            clear hg
            cases hf : fl P D k with
            | none =>
              have hf1 := HFL.out hf K0.out
              rw [flI_none hf]
              have tt : (((n : Nat) : Int) != (n : Int)) = false := by simp
              by_cases hn : n ≤ 4096
              · have HOK1 := hide (HLD.out.2 (fun _ => ⟨HNG.out, hf1, hn⟩))
                have HF1 := hide (flI_some hf1)
                clear HLD HFL HFS hf1
                go_wp2
                go_roundw
                case rel =>
                  refine ⟨k + 1, by omega, by go_num, by rw [HF1.out], fun i hi => ?_, hbo2⟩
                  by_cases e : i = k
                  · subst e; exact HOK1.out
                  · exact HOKS.out i (by omega)
                case measure => simp [intOf]; omega
              · have HB : Hid (¬ ldsOk P D gone) := fun hl => hn ((HLD.out.1 (hl k hlt)) K0.out).2.2
                have hnI : (4096 : Int) < (n : Int) := by omega
                clear HLD HFL HFS hf1
                go_wp2
                go_ret2
                exact ⟨fun _ hl => absurd hl HB.out, fun _ _ => rfl, fun hn => absurd HOK.out hn, hbw2⟩
            | some m =>
              have hf1 := HFS.out m hf
              rw [flI_some hf]
              by_cases hn : n = m ∧ n ≤ 4096
              · obtain ⟨rfl, hn⟩ := hn
                have HOK1 := hide (HLD.out.2 (fun _ => ⟨HNG.out, hf1, hn⟩))
                have HF1 := hide (flI_some hf1)
                have tt : (((n : Nat) : Int) != (n : Int)) = false := by simp
                clear HLD HFL HFS hf1
                go_wp2
                go_roundw
                case rel =>
                  refine ⟨k + 1, by omega, by go_num, by rw [HF1.out], fun i hi => ?_, hbo2⟩
                  by_cases e : i = k
                  · subst e; exact HOK1.out
                  · exact HOKS.out i (by omega)
                case measure => simp [intOf]; omega
              · have HB : Hid (¬ ldsOk P D gone) := fun hl => by
                  have q := (HLD.out.1 (hl k hlt)) K0.out
                  rw [hf1] at q
                  have := q.2.1
                  simp at this
                  omega
                clear HLD HFL HFS hf1
                by_cases hne : n = m
                · have hnI : (4096 : Int) < (m : Int) := by omega
                  have tt : (((n : Nat) : Int) != (m : Int)) = false := by simp; omega
                  clear hn hne
                  go_wp2
                  go_ret2
                  exact ⟨fun _ hl => absurd hl HB.out, fun _ _ => rfl, fun hn => absurd HOK.out hn, hbw2⟩
                · have tt : (((n : Nat) : Int) != (m : Int)) = true := by simp; omega
                  clear hn hne
                  go_wp2
                  go_ret2
                  exact ⟨fun _ hl => absurd hl HB.out, fun _ _ => rfl, fun hn => absurd HOK.out hn, hbw2⟩
        · have tk : ((sk : Int) != 0) = true := by simp; omega
          have HF := hide (show flI P D (k + 1) = flI P D k by unfold flI; rw [HFO.out k0])
          have HOK1 := hide (HLD.out.2 (fun e => absurd e k0))
          clear HFO HFL HFS HLD hst k0
          go_wp2
          go_roundw
          case rel =>
            refine ⟨k + 1, by omega, by go_num, by rw [HF.out], fun i hi => ?_, hbo2⟩
            by_cases e : i = k
            · subst e; exact HOK1.out
            · exact HOKS.out i (by omega)
          case measure => simp [intOf]; omega
      · have hkk : k = P.length := by omega
        subst hkk
        have HLD : Hid (ldsOk P D gone) := fun i hi => hok i hi
        have hnl := runLen_le HLD.out
        have HLN := hide (ld_len HLD.out)
        have HH := hide h
        have HD := hide hD
        have HG := hide hG
        have HPP := hide hP
        clear hok h hD hG hP
        go_upto_if 70 with (fail)
        go_cut [9] from 69 to 70 (fun nv wc => nv = .int .i64 ((runLen P D : Nat) : Int) ∧ wc = wo)
        case first =>
          cases hf : fl P D P.length with
          | none =>
            rw [flI_none hf]
            have HRL : Hid (runLen P D = 0) := by show runLen P D = 0; simp [runLen, hf]
            go_wp2
            go_meet
            case rel => exact ⟨by rw [HRL.out]; rfl, rfl⟩
          | some m =>
            rw [flI_some hf]
            have HRL : Hid (runLen P D = m) := by show runLen P D = m; simp [runLen, hf]
            go_wp2
            go_meet
            case rel => exact ⟨by rw [HRL.out], rfl⟩
        case rest =>
          obtain ⟨rfl, rfl⟩ := hcut
          obtain ⟨n, hn⟩ : ∃ n, runLen P D = n := ⟨_, rfl⟩
          have HN := hide hn
          rw [hn] at hnl HLN
          rw [hn]
          clear hn
          rename World => wo
          go_wp2
          go_loopw [12, 13] (fun vR iv wr => Rg2 wo r n vR iv wr) (fun _ iv _ => r - (intOf iv).toNat)
          case atStart => exact ⟨0, [], Nat.zero_le _, rfl, Tab.nil _ _, rfl, Below.refl _ _⟩
          case round =>
            rename World => wp
            obtain ⟨k, T, hk, rfl, hT, hH, hbp⟩ := hrel
            have hsp := hbp.size
            have q0' := (hbp.cell (block_lt_of_cell q0)).trans q0
            have q1' := (hbp.cell (block_lt_of_cell q1)).trans q1
            have hTk : T.length = k := by rw [holds_len hH]; simp [regs0]
            by_cases hlt : k < r
            · have HHo := hide hH
              have hTl : T.length ≤ 32 := by omega
              clear hH
              go_wp2_with (first
                | (at_make; refine wpList_mk _ rfl (.tmp 78) (.tmp 78) rfl _ n rfl rfl rfl (by omega) ?_; intro wm hB hbm hzm; have hsm := hbm.size; clear hzm)
                | (at_builtin; (refine wpList_append_own _ rfl (.tmp 77) (.tmp 80) 24 rfl wo.heap.size 44 i0 (.slice none 0 0) 1 24 Tryd.underlying24 hi0 hz0 hz1 hz2 rfl (by decide) _ T.length (T.map hdr) rfl ((hT.below hbm).alloc _).own ⟨wm.heap.size, 0, none⟩ 1 1 [.slice (some ⟨wp.heap.size, 0, none⟩) n n] rfl rfl (one_new _ _ rfl _ _) (by simp [Value.oneCell']) (by unfold maxLen; omega) (by omega) (by rw [nblk_alloc]; omega) ?_; intro v' w6 hown' hgrow hnn2)))
              have hT2 := Tab.append2 hT hbm hsp (Nat.le_refl _) hB (by simp) (by simp) (by simp; omega) (by intro x hx; have := List.eq_of_mem_replicate hx; omega) hgrow hown'
              have hb2 := below_append hT hbp hbm hsp hgrow
              go_wp2
              go_roundw
              case rel =>
                refine ⟨k + 1, _, by omega, by go_num, hT2, ?_, hb2⟩
                have hh := HHo.out
                unfold Holds at hh ⊢
                rw [regs0_succ, List.map_append, List.map_append, hh]
                rfl
              case measure => simp [intOf]; omega
            · have hkk : k = r := by omega
              subst hkk
              have HRN : Hid (Rf.Rn wo wo.heap.size P D (regs0 k n) n k u12 0 (.slice none 0 0) T [] wp) := ⟨hT, hTk, hH, fun l hl => by
                have := List.eq_of_mem_replicate (show l ∈ List.replicate k (List.replicate n 0) from hl)
                rw [this]; simp, Outs.nil _ _ _, rfl, fun p _ q hq => by simp at hq, hbp, hsp⟩
              clear hT hH
              go_wp2
              go_loopw [14, 15] (fun vO iv wr => RnR2 wo wo.heap.size P D (regs0 k n) n k u12 vO iv wr) (fun _ iv _ => P.length - (intOf iv).toNat)
              case atStart => exact ⟨0, T, [], Nat.zero_le _, rfl, HRN.out⟩
              case round =>
                clear HRN
                rename World => wl
                obtain ⟨i, T', O, hi, rfl, hR⟩ := hrel
                have hsl := hR.size
                have hbl := hbwo.trans (hR.below.mono (by omega))
                have q0' := (hR.below.cell (block_lt_of_cell q0)).trans q0
                have q1' := (hR.below.cell (block_lt_of_cell q1)).trans q1
                by_cases hlt : i < P.length
                · rcases (HH.out.mono hbl).cases with ⟨rfl, _⟩ | ⟨b, off, cc, e, _, hc⟩
                  · simp at hlt
                  simp at e
                  obtain ⟨rfl, rfl⟩ := e
                  obtain ⟨d0, d1, d2, d3⟩ := hc i hlt
                  have hst := HST.out i hlt
                  unfold okStep at hst
                  have hin := HPP.out _ (List.getElem_mem hlt)
                  have hstk := stAt_get P i hlt
                  have HRL := hide (reg_load P D (regs0 k n) i)
                  have HRA := hide (reg_add P D (regs0 k n) i)
                  have HRP := hide (reg_put P D (regs0 k n) i)
                  have HNK := hide (HLN.out i hlt)
                  rw [hstk] at HRL HRA HRP HNK
                  have HDO := hide (HD.out.mono hbl)
                  have HC := hide hc
                  have HR := hide hR
                  clear hc hR hstk
                  have hsc := hin.2.2.2.2.2
                  clear hin
                  generalize P[i].k = sk at *
                  generalize P[i].a = sa at *
                  generalize P[i].b = sb at *
                  generalize P[i].c = sc at *
                  obtain ⟨wb, hwb, hbb, hsb, b1, b2, b3⟩ := box4 wl (.int .i64 (sk : Int)) (.int .i64 sa) (.int .i64 sb) (.int .u8 (sc : Int)) 94
                  have HRB := hide (HR.out.next hbb)
                  have hkp : 0 < k := by omega
                  obtain ⟨gR, capR, hvR⟩ := HR.out.shape hkp
                  have HVR := hide hvR
                  rw [hvR] at HR HRB
                  subst hvR
                  rcases hst with ⟨hk02, a0, a1, x0, x1⟩ | ⟨hk1, a0, a1, x0, x1, hne⟩
                  · obtain ⟨A, rfl⟩ : ∃ A : Nat, sa = (A : Int) := ⟨sa.toNat, by omega⟩
                    obtain ⟨X, rfl⟩ : ∃ X : Nat, sb = (X : Int) := ⟨sb.toNat, by omega⟩
                    have hA : A < k := by omega
                    have hX : X < D.length := by omega
                    obtain ⟨g, hTA, t1, t2, t3, t4, t5, t6, t7, t8, t9⟩ := HR.out.reg rfl A hA
                    replace t1 := (hbb.cell (block_lt_of_cell t1)).trans t1
                    replace t2 := t2.below hbb
                    rw [Int.toNat_natCast, Int.toNat_natCast] at HRL
                    rw [Int.toNat_natCast] at HRP
                    rcases hk02 with rfl | rfl
                    · have hwb0 : Hid (wl.alloc (.cells #[.int .i64 0, .int .i64 (A : Int), .int .i64 (X : Int), .int .u8 (sc : Int)] 94) = wb) := hwb
                      have hgx : D.getD X [] = D[X] := by simp [hX]
                      have hnk := HNK.out rfl
                      rw [Int.toNat_natCast, hgx] at hnk
                      rw [hgx] at HRL
                      rcases HDO.out.cases with ⟨hDn, _⟩ | ⟨db, doff, dc, e, _, hdc⟩
                      · rw [hDn] at hX; simp at hX
                      simp at e
                      obtain ⟨rfl, rfl⟩ := e
                      obtain ⟨u, u1, u2⟩ := hdc X hX
                      obtain ⟨ax, cx, rfl, _⟩ := id u2
                      have u1' := (hbb.cell (block_lt_of_cell u1)).trans u1
                      have u2' := u2.mono hbb
                      have hdb : db < w.heap.size := by
                        rcases HD.out.cases with ⟨hDn, _⟩ | ⟨db', doff', dc', e, _, hdc'⟩
                        · rw [hDn] at hX; simp at hX
                        · simp at e
                          obtain ⟨⟨rfl, rfl⟩, rfl⟩ := e
                          obtain ⟨u', u1'', _⟩ := hdc' X hX
                          exact block_lt_of_cell u1''
                      have hxD : ∀ x ∈ D[X], x < 256 := u2.lt
                      obtain ⟨wc, hrun, hBc, hgc⟩ := copy_run wb.drew 3 g n n _ D[X] ax cx t2 u2' hnk t3
                      have HW := hide ((HRB.out.next (show Below wb.heap.size wb wb.drew from ⟨rfl, rfl, rfl, Nat.le_refl _, fun _ _ => rfl⟩)).write hTA t3 hgc hBc hnk hxD (HRL.out rfl).1 (HRL.out rfl).2)
                      rw [hnk] at u1' hrun
                      have HRUN := hide hrun
                      have z1 := hgc.cell (show wb.drew.cell? ⟨wl.heap.size, 1, none⟩ = _ from b1) (by simp; omega)
                      have z2 := hgc.cell (show wb.drew.cell? ⟨wl.heap.size, 2, none⟩ = _ from b2) (by simp; omega)
                      have z3 := hgc.cell (show wb.drew.cell? ⟨gR, A, none⟩ = _ from t1) (by simp; omega)
                      have z4 := hgc.cell (show wb.drew.cell? ⟨db, doff + X, none⟩ = _ from u1') (by simp; omega)
                      clear hrun hBc hgc u1 u2 u2' hTA t2 t3 t4 HRL HRA HRP HNK hxD hwb hdc
                      go_wp2
                      rw [hwb0.out]
                      go_region_held3 (fun w' => w'.cell? ⟨wl.heap.size, 1, none⟩ = some (.int .i64 (A : Int)) ∧ w'.cell? ⟨wl.heap.size, 2, none⟩ = some (.int .i64 (X : Int)) ∧ w'.cell? ⟨gR, A, none⟩ = some (.slice (some ⟨g, 0, none⟩) n n) ∧ w'.cell? ⟨db, doff + X, none⟩ = some (.slice ax n cx)) (first | exact ⟨b1, b2, t1, u1'⟩ | exact ⟨z1, z2, z3, z4⟩) (refine step_copy rfl (.tmp 102) (.tmp 107) rfl _ _ _ rfl rfl HRUN.out ?_)
                      go_wp2
                      go_roundw
                      case rel =>
                        obtain ⟨T2, hT2⟩ := HW.out
                        exact ⟨i + 1, T2, O, by omega, by go_num, hT2⟩
                      case measure => simp [intOf]; omega
                    · have hwb0 : Hid (wl.alloc (.cells #[.int .i64 2, .int .i64 (A : Int), .int .i64 (X : Int), .int .u8 (sc : Int)] 94) = wb) := hwb
                      have hol := HRB.out.olen
                      have hsbl := hbb.size
                      clear hsb
                      have HBS := hide (show Bs wb (.slice (some ⟨g, 0, none⟩) n n) ((regTo P D (regs0 k n) i).getD A []) by
                        have := Bs.of_row (n := n) t2 (by omega) (by omega) t4
                        rw [List.take_of_length_le (by omega), t3] at this
                        exact this)
                      have HPT := hide (HRP.out rfl)
                      have HT3 := hide t3
                      have HT4 := hide t4
                      clear hTA t2 t3 t4 HRL HRA HRP HNK hwb
                      go_upto_region 36 with (fail)
                      rw [hwb0.out]
                      go_wp2_with (first
                        | (at_make; refine wpList_mk _ rfl (.tmp 146) (.tmp 146) rfl _ n rfl rfl rfl (by omega) ?_; intro wm hB hbm hzm; have hsm := hbm.size; clear hzm
                           have z1 := (hbm.cell (block_lt_of_cell b1)).trans b1
                           have z3 := (hbm.cell (block_lt_of_cell t1)).trans t1)
                        | (refine wpList_cp rfl (.tmp 148) (.tmp 153) rfl wb.heap.size n n _ rfl rfl (List.replicate n 0) _ hB (HBS.out.mono hbm) (Nat.le_of_eq HT3.out) (by simp) wb.heap.size wb hbm (Nat.le_refl _) ?_; intro w7 hB7 hb7
                           have y2 := (hb7.cell (block_lt_of_cell b2)).trans b2
                           have hs7 := hb7.size)
                        | (at_builtin; refine wpList_append_own _ rfl (.tmp 155) (.tmp 160) 63 rfl wo.heap.size 78 j0 (.agg #[.int .i64 0, .slice none 0 0]) 2 32 Tryd.underlying63 hj0 hy0 hy1 hy2 rfl (by decide) _ O.length (outc O) rfl ((HRB.out.next hb7).next ((Below.refl _ _).alloc (Nat.le_refl _) _)).outs.own ⟨w7.heap.size, 0, none⟩ 1 1 [.int .i64 (X : Int), .slice (some ⟨wb.heap.size, 0, none⟩) n n] rfl rfl (two_new _ _ rfl _ _ _) (by intro q hq; simp at hq; rcases hq with rfl | rfl <;> rfl) (by unfold maxLen; omega) (by omega) (by rw [nblk_alloc]; omega) ?_; intro v' w8 hown' hgrow hnn2))
                      rw [List.drop_eq_nil_of_le (by rw [List.length_replicate, HT3.out]; exact Nat.le_refl _)] at hB7
                      go_wp2
                      go_roundw
                      case rel => exact ⟨i + 1, T', _, by omega, by go_num, HRB.out.put (m := 0) hb7 (Nat.le_refl _) hB7 HT3.out (by omega) (by omega) HT4.out hgrow hown' HPT.out.1 HPT.out.2⟩
                      case measure => simp [intOf]; omega
                  · obtain ⟨A, rfl⟩ : ∃ A : Nat, sa = (A : Int) := ⟨sa.toNat, by omega⟩
                    obtain ⟨X, rfl⟩ : ∃ X : Nat, sb = (X : Int) := ⟨sb.toNat, by omega⟩
                    have hA : A < k := by omega
                    have hX : X < k := by omega
                    have hAX : A ≠ X := by omega
                    obtain ⟨g, hTA, t1, t2, t3, t4, t5, t6, t7, t8, t9⟩ := HR.out.reg rfl A hA
                    obtain ⟨g', hTX, s1, s2, s3, s4, s5, s6, s7, s8, s9⟩ := HR.out.reg rfl X hX
                    have hgg := HR.out.reg_ne hTA hTX hAX
                    replace t1 := (hbb.cell (block_lt_of_cell t1)).trans t1
                    replace t2 := t2.below hbb
                    replace s1 := (hbb.cell (block_lt_of_cell s1)).trans s1
                    replace s2 := s2.below hbb
                    rw [Int.toNat_natCast, Int.toNat_natCast] at HRA
                    subst hk1
                    have hwb0 : Hid (wl.alloc (.cells #[.int .i64 1, .int .i64 (A : Int), .int .i64 (X : Int), .int .u8 (sc : Int)] 94) = wb) := hwb
                    have HAD := hide (HRA.out rfl)
                    have HTA := hide hTA
                    have HT2 := hide t2
                    have HS2 := hide s2
                    have HT3 := hide t3
                    have HS3 := hide s3
                    have HT4 := hide t4
                    have HS4 := hide s4
                    clear hTA hTX t2 t3 t4 s2 s3 s4 HRL HRA HRP HNK hwb
                    generalize (regTo P D (regs0 k n) i).getD X [] = ly at *
                    generalize (regTo P D (regs0 k n) i).getD A [] = lx at *
                    go_wp2
                    rw [hwb0.out]
                    go_loopw [17] (fun iv wr => ApR wb g lx ly sc n iv wr) (fun iv _ => n - (intOf iv).toNat)
                    case atStart => exact ⟨0, Nat.zero_le _, rfl, by rw [addPart_zero]; exact HT2.out, ⟨rfl, rfl, rfl, Nat.le_refl _, fun _ _ _ => rfl⟩⟩
                    case round =>
                      rename World => wr
                      obtain ⟨j, hj, rfl, hBj, hgr⟩ := hrel
                      by_cases hjn : j < n
                      · have c1 := hgr.cell b1 (by simp; omega)
                        have c2 := hgr.cell b2 (by simp; omega)
                        have c3 := hgr.cell b3 (by simp; omega)
                        have cA := hgr.cell t1 (by simp; omega)
                        have cX := hgr.cell s1 (by simp; omega)
                        have cy := (HS2.out.grown hgr (by simp; omega)).cell j (by rw [HS3.out]; exact hjn)
                        have cx := hBj.cell j (by rw [addPart_len, HT3.out]; exact hjn)
                        rw [addPart_get _ _ _ _ (by rw [HT3.out]; exact hjn)] at cx
                        have hfz := hBj.frozen j
                        have hyl := getD_lt HS4.out j
                        have hxl := getD_lt HT4.out j
                        have hxx := u8_xor (lx.getD j 0) (gm sc (ly.getD j 0)) hxl (gm_lt _ hsc)
                        have hB2 := hBj.set j (lx.getD j 0 ^^^ gm sc (ly.getD j 0))
                        rw [addPart_step] at hB2
                        have HB2 := hide hB2
                        have HG2 := hide (grown_set hgr j (.int .u8 ((lx.getD j 0 ^^^ gm sc (ly.getD j 0) : Nat) : Int)))
                        clear hB2 hBj hgr
                        generalize ly.getD j 0 = y at *
                        generalize lx.getD j 0 = x at *
                        go_wp2
                        go_region_held3 (fun w' => w'.cell? ⟨wl.heap.size, 3, none⟩ = some (.int .u8 (sc : Int)) ∧ w'.cell? ⟨wl.heap.size, 2, none⟩ = some (.int .i64 (X : Int)) ∧ w'.cell? ⟨gR, X, none⟩ = some (.slice (some ⟨g', 0, none⟩) n n) ∧ w'.cell? ⟨g', j, none⟩ = some (.int .u8 (y : Int))) (exact ⟨c3, c2, cX, cy⟩) ((go_at_call 44; refine (rmul_any sc y hsc hyl _).mono ?_; rintro e w' ⟨rfl, rfl⟩))
                        go_wp2
                        go_region_with (fail)
                        all_goals
                          go_wp2
                          go_roundw
                          case rel => exact ⟨j + 1, by omega, by go_num, HB2.out, ⟨HG2.out.os, HG2.out.tape, HG2.out.output, HG2.out.size, HG2.out.block⟩⟩
                          case measure => simp [intOf]; omega
                      · have hjj : j = n := by omega
                        subst hjj
                        have hBn : Brow wr g (addRow lx ly sc) := by rw [← addPart_full, HT3.out]; exact hBj
                        have HW := hide (HRB.out.write HTA.out HT3.out hgr hBn (by rw [addRow_len]; exact HT3.out) (addRow_lt HT4.out hsc) HAD.out.1 HAD.out.2)
                        clear hBj hBn hgr
                        go_wp2
                        go_roundw
                        case rel =>
                          obtain ⟨T2, hT2⟩ := HW.out
                          exact ⟨i + 1, T2, O, by omega, by go_num, hT2⟩
                        case measure => simp [intOf]; omega
                · have hii : i = P.length := by omega
                  subst hii
                  have HR := hide hR
                  clear hR
                  go_wp2
                  go_ret2
                  refine ⟨fun _ _ => ⟨_, O, rfl, HR.out.outs.weaken (by omega), ?_⟩, fun _ hl => absurd HLD.out hl, fun hn => absurd HOK.out hn, hbl⟩
                  rw [HN.out, Int.toNat_natCast]
                  exact HR.out.vals
  · have e1 := hc2 hok
    subst e1
    have HN := hide hok
    clear hok hc1 hc2 h0 h hP hD hG hb1 hb0
    go_wp2
    go_ret2
    exact ⟨fun hp => absurd hp HN.out, fun hp => absurd hp HN.out, fun _ => rfl, hbw1⟩
end Go.Proofs.YthhommjlomphdaaDoor
