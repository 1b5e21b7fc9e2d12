/-
  The law Runs: its walk. (Written by a small program: the two cases share their beginning.)
-/
import Derived.Test.YthhommjlomphdaaDoorRefRun
import Derived.Test.YthhommjlomphdaaDoorRunProg
import Derived.Test.YthhommjlomphdaaDoorSameOut
import Derived.Test.YthhommjlomphdaaDoorLaid
import Derived.Laws.BitsAllLaws
namespace Go.Proofs.YthhommjlomphdaaDoor
open Go.RowKit Go.Deep Gf

set_option maxRecDepth 100000 in
set_option maxHeartbeats 1000000 in
theorem srun_any (regs : Int) (v : Value) (P : List St) (bi ci : Nat) (D : List (List Nat)) (gone : Nat) (w : World) (h : Ps .u8 w v P) (hP : ∀ s ∈ P, okInts s) (hI : In w bi D gone) (hbi : bi < w.heap.size) (hlen : ∀ l ∈ D, l.length ≤ 100000) (hl : P.length ≤ 5000) :
    Calls Tryd.prog 27 #[.agg #[.int .i64 regs, v], .slice (some ⟨bi, 0, none⟩) D.length ci] w fun e w' => RnPost regs P D gone w e w' := by
  have hb0 : Below w.heap.size w (w.alloc (.cells #[.int .i64 regs, v] 49)) := (Below.refl _ _).alloc (Nat.le_refl _) _
  have h0 := h.mono hb0
  have hI0 := hI.mono hb0
  obtain ⟨ao, c, rfl⟩ := h.slice
  clear h hI
  go_enter Tryd.func27, Tryd.ntmps27
  go_wp2_with fail
  refine (run_any regs _ P bi ci D gone _ h0 hP hI0 (by rw [nblk_alloc]; omega) hlen hl).mono ?_
  rintro r w1 ⟨h1, h2, h3, hb1⟩
  rw [nblk_alloc] at hb1
  have hbw := hb0.trans (hb1.mono (by omega))
  by_cases hp : okProg regs P D.length
  · by_cases hq : ldsOk P D gone
    · obtain ⟨v, O, rfl, hO, hv⟩ := h1 hp hq
      have HP := hide hp
      have HQ := hide hq
      have HO := hide (hO.weaken (base' := w.heap.size) (by rw [nblk_alloc]; omega))
      have HV := hide hv
      clear h1 h2 h3 hp hq hO hv
      go_wp2
      go_ret2
      exact ⟨fun _ _ => ⟨_, O, rfl, HO.out, HV.out⟩, fun _ hn => absurd HQ.out hn, fun hn => absurd HP.out hn, hbw⟩
    · obtain rfl := h2 hp hq
      have HP := hide hp
      have HQ := hide hq
      clear h1 h2 h3 hp hq
      go_wp2
      go_ret2
      exact ⟨fun _ hn => absurd hn HQ.out, fun _ _ => rfl, fun hn => absurd HP.out hn, hbw⟩
  · obtain rfl := h3 hp
    have HP := hide hp
    clear h1 h2 h3 hp
    go_wp2
    go_ret2
    exact ⟨fun hn => absurd hn HP.out, fun hn => absurd hn HP.out, fun _ => rfl, hbw⟩
theorem ownsRow_only {T : List (Nat × Nat × List Nat)} {w w' : World} {base : Nat} {e : TypeId} {size : Nat} {v : Value} {n : Nat} {xs : List Value} (h : w.ownsRow base e size v n xs) (ho : Only T w w') (hlt : ∀ p ∈ T, p.1 < base) : w'.ownsRow base e size v n xs := by
  refine ⟨h.1, ?_⟩
  rcases h.2 with h0 | ⟨g, cap, cur, e1, e2, e3, e4⟩
  · exact .inl h0
  · refine .inr ⟨g, cap, cur, e1, e2, ?_, e4⟩
    obtain ⟨hlt', _⟩ := Array.getElem?_eq_some_iff.1 e3
    rw [ho.block g hlt' (fun p hp e => by have := hlt p hp; omega)]; exact e3
theorem Outs.only {t : TypeId} {T : List (Nat × Nat × List Nat)} {w w' : World} {base : Nat} {v : Value} {O : List (Int × Nat × Nat × List Nat)} (h : Outs t w base v O) (ho : Only T w w') (hlt : ∀ p ∈ T, p.1 < base) : Outs t w' base v O :=
  ⟨ownsRow_only h.own ho hlt, fun q hq => by
    obtain ⟨a, b, c⟩ := h.row q hq
    exact ⟨a, World.rowIs.of_block b (ho.block q.2.1 b.lt (fun p hp e => by have := hlt p hp; omega)), c⟩, h.nodup⟩
theorem bit_u64' (lost k : Nat) (hl : lost < 18446744073709551616) : bits .and .u64 ((lost : Int) / 2 ^ k) 1 = ((lost / 2 ^ k % 2 : Nat) : Int) := by
  have c : (lost : Int) / 2 ^ k = ((lost / 2 ^ k : Nat) : Int) := by simp
  have h : lost / 2 ^ k < 18446744073709551616 := Nat.lt_of_le_of_lt (Nat.div_le_self _ _) hl
  have e := u64_and_nat (lost / 2 ^ k) 1 h (by decide)
  rw [and1] at e
  rw [c]; exact e
set_option maxRecDepth 100000 in
theorem has_any' (lost k : Nat) (hl : lost < 18446744073709551616) (hk : k ≤ 64) (w : World) :
    Calls Tryd.prog 26 #[.int .u64 lost, .int .i64 k] w fun e w' => e = .returned (.bool (goneV lost k)) ∧ w' = w := by
  have hbit := bit_u64' lost k hl
  have hv : (((lost / 2 ^ k % 2 : Nat) : Int) == 1) = goneV lost k := by
    unfold goneV
    by_cases hh : lost / 2 ^ k % 2 = 1
    · rw [hh]; rfl
    · have h0 : lost / 2 ^ k % 2 = 0 := by omega
      rw [h0]; rfl
  generalize goneV lost k = z at *
  go_enter Tryd.func26, Tryd.ntmps26
  go_wp2
  go_ret
  exact ⟨ret_b hv, rfl⟩
/-- the shards that are given: nil where lost -/
def inV (T : List (Nat × Nat × List Nat)) (gone k i : Nat) : Value := if i < k ∧ goneV gone i = false then hdr (T.getD i (0, 0, [])) else .slice none 0 0
def bl (gone k : Nat) : List Value := (List.range k).map fun i => .bool (goneV gone i)
theorem bl_succ (gone k : Nat) : bl gone (k + 1) = bl gone k ++ [.bool (goneV gone k)] := by simp [bl, List.range_succ]
theorem gn_of {w : World} {base : Nat} {v : Value} {N gone : Nat} (h : w.ownsRow base 4 1 v N (bl gone N)) : Gn w v N gone := by
  rcases h.2 with ⟨h0, h1⟩ | ⟨g, cap, cur, e1, _⟩
  · exact ⟨none, 0, by rw [h0, h1], fun i hi => by omega⟩
  · refine ⟨_, cap, e1, fun i hi => ⟨g, rfl, ?_⟩⟩
    rw [e1] at h
    rw [h.cellAt i (by omega)]
    simp [bl, hi]
theorem in_of {w : World} {B bi : Nat} {vr : Value} {T : List (Nat × Nat × List Nat)} {D : List (List Nat)} {gone : Nat} (hT : Tab w B vr T) (hR : RoomOf T D) (hrow : w.rowIs bi 44 D.length (inV T gone D.length)) (hlen : ∀ l ∈ D, l.length ≤ 100000) : In w bi D gone := by
  intro i hi
  have hc := hrow.cell hi
  have hTi : i < T.length := by rw [hR.len]; exact hi
  have hat := hR.at hTi hi
  refine ⟨fun hg => ?_, fun hg => ?_⟩
  · rw [hc]
    unfold inV
    rw [if_neg (fun h => by have := (goneV_iff gone i).2 hg; rw [h.2] at this; simp at this)]
  · have hgv : goneV gone i = false := by
      cases h : goneV gone i with
      | false => rfl
      | true => exact absurd ((goneV_iff gone i).1 h) hg
    unfold inV at hc
    rw [if_pos ⟨hi, hgv⟩] at hc
    have e1 : T.getD i (0, 0, []) = T[i] := by simp [hTi]
    obtain ⟨_, a2, _, _, a5⟩ := hT.row _ (List.getElem_mem hTi)
    have e2 : T[i].2.2 = D[i] ++ [71, 72] := by rw [hat]
    have e3 : T[i].2.1 = (D[i]).length := by rw [hat]
    rw [e1] at hc
    unfold hdr at hc
    rw [e3] at hc
    refine ⟨_, _, hc, ?_⟩
    have hb := Bs.of_row (n := (D[i]).length) a2 (by rw [e2]; simp) (by have := hlen _ (List.getElem_mem hi); omega) a5
    have e4 : (T[i].2.2).take (D[i]).length = D[i] := by rw [e2]; simp
    rw [e4] at hb
    exact hb
def RwR (w1 w2 : World) (bi N gone : Nat) (T : List (Nat × Nat × List Nat)) (nv iv : Value) (wr : World) : Prop :=
  ∃ k : Nat, k ≤ N ∧ iv = .int .i64 k ∧ wr.ownsRow w2.heap.size 4 1 nv k (bl gone k) ∧ wr.rowIs bi 44 N (inV T gone k) ∧ Below w1.heap.size w1 wr
theorem Tryd.infoBool : (Tryd.prog.info? 4).map (fun i => (i.zero, i.size, i.bytes)) = some (some (.bool false), 1, 1) := by kernel_rfl
theorem inV_zero (T : List (Nat × Nat × List Nat)) (gone i : Nat) : inV T gone 0 i = .slice none 0 0 := by simp [inV]
theorem inV_gone (T : List (Nat × Nat × List Nat)) (gone k i : Nat) (h : goneV gone k = true) : inV T gone (k + 1) i = inV T gone k i := by
  unfold inV
  by_cases e : i = k
  · subst e; rw [if_neg (by simp [h]), if_neg (by simp [h])]
  · have : (i < k + 1 ∧ goneV gone i = false) ↔ (i < k ∧ goneV gone i = false) := by constructor <;> (rintro ⟨a, b⟩; exact ⟨by omega, b⟩)
    simp only [this]
theorem inV_here (T : List (Nat × Nat × List Nat)) (gone k i : Nat) (h : goneV gone k = false) (hk : k < T.length) : inV T gone (k + 1) i = if i = k then hdr T[k] else inV T gone k i := by
  by_cases e : i = k
  · subst e; unfold inV; simp [h, hk]
  · rw [if_neg e]
    unfold inV
    have : (i < k + 1 ∧ goneV gone i = false) ↔ (i < k ∧ goneV gone i = false) := by constructor <;> (rintro ⟨a, b⟩; exact ⟨by omega, b⟩)
    simp only [this]
set_option maxRecDepth 100000 in
set_option maxHeartbeats 8000000 in
theorem runs_ok (regs : Int) (v vd : Value) (P : List St) (D : List (List Nat)) (gone : Nat) (w : World) (h : Ps .u8 w v P) (hP : ∀ s ∈ P, okInts s) (hl : P.length ≤ 5000) (hd : Rd w vd D) (hwt : wgt D D.length ≤ 100000) (hN : D.length ≤ 64) (hgn : gone < 18446744073709551616) (hg : globalLaid w) (hp : okProg regs P D.length) (hq : ldsOk P D gone) :
    Calls Tryd.prog 7 #[.agg #[.int .i64 regs, v], vd, .int .u64 gone] w fun e w' => e = .returned (.bool true) ∧ Below w.heap.size w w' := by
  have HC := hide (And.intro hp hq)
  clear hp hq
  obtain ⟨i0, hi0, hz0, hz1, hz2⟩ := info_parts Tryd.infoBool
  have hlt0 : 0 < w.heap.size := block_lt_of_cell hg
  have hb0 : Below w.heap.size w (w.alloc (.cells #[.int .i64 regs, v] 49)) := (Below.refl _ _).alloc (Nat.le_refl _) _
  have hd0 := hd.mono hb0
  have HP := hide hP
  have HW := hide hwt
  have HLEN : Hid (∀ l ∈ D, l.length ≤ 100000) := fun l hm => by
    obtain ⟨i, hi, rfl⟩ := List.mem_iff_getElem.1 hm
    exact row_le D i hi hwt
  obtain ⟨ao, c, rfl⟩ := h.slice
  obtain ⟨ad, cd, rfl, _⟩ := id hd
  have H := hide h
  have HD := hide hd
  have HG := hide hg
  have hDl : D.length ≤ 100000 := by omega
  clear h hd hP hwt hg
  have hlI : ¬ (5000 : Int) < (P.length : Int) := by omega
  have hNI : ¬ (64 : Int) < (D.length : Int) := by omega
  go_enter Tryd.func7, Tryd.ntmps7
  go_wp2_with fail
  refine (weight_any _ D _ hd0).mono ?_
  rintro e wa ⟨r, rfl, hrr, rfl⟩
  by_cases hbig : (100000 : Int) < (r : Int)
  · clear hrr
    go_wp2
    go_ret
    exact ⟨rfl, hb0⟩
  clear hrr
  go_wp2_with fail
  refine (roomies_any _ D _ hd0 HW.out).mono ?_
  rintro e w1 ⟨vr, T, rfl, hT, hRoom, hb1⟩
  rw [nblk_alloc] at hT hb1
  have hs1 := hb1.size
  rw [nblk_alloc] at hs1
  obtain ⟨p0, p1⟩ := box2 hb1 rfl
  have hbw1 := hb0.trans (hb1.mono (by omega))
  have hTlen := hRoom.len
  have HRM := hide hRoom
  obtain ⟨ar, cr, hvr, har⟩ := hT.slice
  rw [hTlen] at hvr
  subst hvr
  have HTT := hide hT
  have HTB : Hid (∀ p ∈ T, p.1 < w1.heap.size) := fun p hp => (hT.row p hp).2.1.lt
  clear hRoom hd0 hT
  go_wp2_with (at_make; refine wpList_mkRows _ rfl (.tmp 39) (.tmp 39) rfl _ D.length rfl rfl rfl (by omega) ?_; intro w2 hRow hb2 hz2'; have hs2 := hb2.size; have hs2' := hz2'; clear hz2')
  have HS2 := hide hs2'
  clear hs2'
  go_loopw [9, 11] (fun nv iv wr => RwR w1 w2 w1.heap.size D.length gone T nv iv wr) (fun _ iv _ => D.length - (intOf iv).toNat)
  case atStart => exact ⟨0, Nat.zero_le _, rfl, World.ownsRow_nil _ _ _ _, hRow.congr (fun i _ => by rw [inV_zero]), hb2⟩
  case round =>
    clear hRow hb2
    rename World => wo
    obtain ⟨k, hk, rfl, hown, hrow, hbo⟩ := hrel
    have hso := hbo.size
    have hs2w : w2.heap.size ≤ wo.heap.size ∨ True := .inr trivial
    clear hs2w
    by_cases hlt : k < D.length
    · obtain ⟨gr, rfl⟩ := har (by intro e; rw [e] at hTlen; simp at hTlen; omega)
      have hkT : k < T.length := by omega
      have hTo := HTT.out.below hbo
      have hcT := hTo.cell_at hkT
      have hblt := hrow.lt
      have HBL := hide (bl_succ gone k)
      have HIG := hide (fun i => inV_gone T gone k i)
      have HIH := hide (fun i h => inV_here T gone k i h hkT)
      have HROW := hide hrow
      have HOWN := hide hown
      have HBO := hide hbo
      have HLT := hide hown.lt
      have h2o : w2.heap.size ≤ wo.heap.size := by
        have := HS2.out
        omega
      clear hown hTo
      have hcS := hrow.cell hlt
      have hfS := hrow.frozen k
      obtain ⟨⟨tb, tn, tl⟩, hTk⟩ : ∃ p, p = T[k] := ⟨_, rfl⟩
      have HTK := hide hTk
      rw [← hTk] at hcT
      unfold hdr at hcT
      simp only at hcT
      obtain ⟨z, hz⟩ : ∃ z, goneV gone k = z := ⟨_, rfl⟩
      have HZ := hide hz
      clear hrow hbo hTk hz
      cases z
      · go_wp2_with (first
          | (go_at_call 26; refine (has_any' gone k hgn (by omega) _).mono ?_; rintro e w' ⟨rfl, hw⟩; have hw2 := hw.symm; clear hw; subst hw2; rw [HZ.out])
          | (at_builtin; refine wpList_append_own _ rfl (.tmp 50) (.tmp 52) 58 rfl w2.heap.size 4 i0 (.bool false) 1 1 Tryd.underlying58 hi0 hz0 hz1 hz2 rfl (by decide) _ k (bl gone k) rfl (ownsRow_below HOWN.out ((Below.refl _ _).alloc (Nat.le_refl _) _)) ⟨wo.heap.size, 0, none⟩ 1 1 [.bool false] rfl rfl (one_new _ _ rfl _ _) (by simp [Value.oneCell']) (by unfold maxLen; omega) (by omega) (by rw [nblk_alloc]; omega) ?_; intro v' w5 hown' hgrow hnn
             have hb5 : Below w1.heap.size w1 w5 := (HBO.out.alloc (by omega) _).grown hgrow (by rw [nblk_alloc]; omega) (fun q hq => by have := (HLT.out q hq).1; omega)
             have hcT5 := hgrow.cell ((((Below.refl _ _).alloc (Nat.le_refl _) _).cell (block_lt_of_cell hcT)).trans hcT) (fun e => by have h1 := (HLT.out _ e.symm).1; have h2 := block_lt_of_cell (HTT.out.cell_at hkT); simp at h1 h2; omega)
             have hrow5 : w5.rowIs w1.heap.size 44 D.length (inV T gone k) := (HROW.out.alloc _).of_block (hgrow.block _ (by rw [nblk_alloc]; omega) (fun e => by have h1 := (HLT.out _ e.symm).1; have h2 := HS2.out; omega))
             have hcS5 := hrow5.cell hlt
             have hfS5 := hrow5.frozen k
             have HR5 := hide hrow5
             have HO5 := hide hown'
             have HB5 := hide hb5
             clear hrow5 hown' hgrow hnn hb5))
        have hset := HR5.out.set k (.slice (some ⟨tb, 0, none⟩) tn tl.length)
        refine ⟨⟨k + 1, by omega, by go_num, ?_, hset.congr (fun i _ => ?_), HB5.out.setCell (by simp) _⟩, by simp [intOf]; omega⟩
        · rw [HBL.out, HZ.out]
          exact HO5.out.kept (grown_set' _ _ _ _) (.inr (fun e => by have h1 := (HO5.out.lt _ e).1; have h2 := HS2.out; omega))
        · rw [HIH.out i HZ.out, ← HTK.out]; rfl
      · go_wp2_with (first
          | (go_at_call 26; refine (has_any' gone k hgn (by omega) _).mono ?_; rintro e w' ⟨rfl, hw⟩; have hw2 := hw.symm; clear hw; subst hw2; rw [HZ.out])
          | (at_builtin; refine wpList_append_own _ rfl (.tmp 50) (.tmp 52) 58 rfl w2.heap.size 4 i0 (.bool false) 1 1 Tryd.underlying58 hi0 hz0 hz1 hz2 rfl (by decide) _ k (bl gone k) rfl (ownsRow_below HOWN.out ((Below.refl _ _).alloc (Nat.le_refl _) _)) ⟨wo.heap.size, 0, none⟩ 1 1 [.bool true] rfl rfl (one_new _ _ rfl _ _) (by simp [Value.oneCell']) (by unfold maxLen; omega) (by omega) (by rw [nblk_alloc]; omega) ?_; intro v' w5 hown' hgrow hnn
             have hb5 : Below w1.heap.size w1 w5 := (HBO.out.alloc (by omega) _).grown hgrow (by rw [nblk_alloc]; omega) (fun q hq => by have := (HLT.out q hq).1; omega)
             have hrow5 : w5.rowIs w1.heap.size 44 D.length (inV T gone k) := (HROW.out.alloc _).of_block (hgrow.block _ (by rw [nblk_alloc]; omega) (fun e => by have h1 := (HLT.out _ e.symm).1; have h2 := HS2.out; omega))
             have HR5 := hide hrow5
             have HO5 := hide hown'
             have HB5 := hide hb5
             clear hrow5 hown' hgrow hnn hb5))
        go_roundw
        case rel => exact ⟨k + 1, by omega, by go_num, by rw [HBL.out, HZ.out]; exact HO5.out, HR5.out.congr (fun i _ => by rw [HIG.out i HZ.out]), HB5.out⟩
        case measure => simp [intOf]; omega
    · have hkk : k = D.length := by omega
      subst hkk
      have hTo := HTT.out.below hbo
      have hIn := in_of hTo HRM.out hrow HLEN.out
      have hbwo := hbw1.trans (hbo.mono (by omega))
      have q0 := (hbo.cell (block_lt_of_cell p0)).trans p0
      have q1 := (hbo.cell (block_lt_of_cell p1)).trans p1
      have HOWN := hide hown
      have HTO := hide hTo
      have HIN := hide hIn
      have hbil := hrow.lt
      clear hown hTo hIn hrow p0 p1
      go_wp2_with fail
      refine (srun_any regs _ P w1.heap.size D.length D gone wo (H.out.mono hbwo) HP.out HIN.out hbil HLEN.out hl).mono ?_
      rintro e w4 ⟨h4, _, _, hb4⟩
      obtain ⟨vO, O, rfl, hO, hv⟩ := h4 HC.out.1 HC.out.2
      have HO := hide hO
      have HV := hide hv
      clear q0 q1 h4 hO hv
      have hs4 := hb4.size
      have hbw4 := hbwo.trans (hb4.mono (by omega))
      go_wp2_with fail
      refine (tell_nil _).mono ?_
      rintro e w5 ⟨rfl, hb5⟩
      have hs5 := hb5.size
      have hb45 : Below wo.heap.size wo w5 := hb4.trans (hb5.mono (by omega))
      have hbw5 := hbwo.trans (hb45.mono (by omega))
      have hT5 := HTO.out.below hb45
      go_wp2_with fail
      refine (allStill_any _ _ T D (w.heap.size + 1) w w5 hT5 HRM.out HD.out (by omega) hbw5 (by omega) HW.out).mono ?_
      rintro e w6 ⟨rfl, hon⟩
      have hs6 := hon.size
      have hb56 := hon.below (B := w.heap.size + 1) (fun p hp => (hT5.row p hp).1) (by omega)
      have hbw6 : Below w.heap.size w w6 := hbw5.trans (hb56.mono (by omega))
      have HG6 := hide (gn_of (ownsRow_only (ownsRow_below HOWN.out hb45) hon (fun p hp => by have := HTB.out p hp; have := HS2.out; omega)))
      have hb16 := hb1.trans ((hbo.mono (by omega)).trans ((hb45.mono (by omega)).trans hb56))
      obtain ⟨r0, r1⟩ := box2 hb16 rfl
      have HO6 := hide ((HO.out.below hb5).only hon (fun p hp => by have := HTB.out p hp; omega))
      clear hT5 hb16 hb56 hon
      go_wp2_with fail
      refine (program_any regs _ P _ (H.out.mono hbw6) hl (fun s hs => (HP.out s hs).1)).mono ?_
      rintro e w7 ⟨v7, rfl, hv7, hb7⟩
      have hs7 := hb7.size
      have hbw7 := hbw6.trans (hb7.mono (by omega))
      obtain ⟨a7, c7, rfl⟩ := hv7.slice
      have H7 := hide hv7
      have HG7 := hide (HG6.out.mono hb7)
      clear r0 r1 hv7
      have hbal := (Below.refl w7.heap.size w7).alloc (Nat.le_refl _) (.cells #[.int .i64 regs, .slice a7 P.length c7] 53)
      have hbw8 : Below w.heap.size w (w7.alloc (.cells #[.int .i64 regs, .slice a7 P.length c7] 53)) := hbw7.alloc (by omega) _
      go_wp2_with fail
      refine (rrun_any regs _ _ _ P D gone _ (H7.out.mono hbal) HP.out (HD.out.mono hbw8) (HG7.out.mono hbal) HLEN.out hl).mono ?_
      rintro e w8 ⟨h8, _, _, hb8⟩
      obtain ⟨vX, X, rfl, hX, hxv⟩ := h8 HC.out.1 HC.out.2
      rw [nblk_alloc] at hb8 hX
      have hs8 := hb8.size
      rw [nblk_alloc] at hs8
      have hO8 := ((HO6.out.below hb7).below hbal).below (by rw [nblk_alloc]; exact hb8)
      have hbw9 := hbw8.trans (hb8.mono (by omega))
      have hox := HV.out.trans hxv.symm
      have hsh : O.map (fun q => q.1) = X.map (fun q => q.1) := by
        have := congrArg (List.map Prod.fst) hox
        simpa [Function.comp_def] using this
      have hal : Alikes (rowsOf O) (rowsOf X) := by
        have := congrArg (List.map Prod.snd) hox
        unfold Alikes rowsOf
        simpa [Function.comp_def] using this
      have hap : Apart (rowsOf O) (rowsOf X) := by
        intro p hp q hq
        simp only [rowsOf, List.mem_map] at hp hq
        obtain ⟨p', hp', rfl⟩ := hp
        obtain ⟨q', hq', rfl⟩ := hq
        have h1 := (HO6.out.row p' hp').2.1.lt
        have h2 := (hX.row q' hq').1
        omega
      have hOl : O.length ≤ 5000 := by
        have h1 := congrArg List.length HV.out
        rw [List.length_map] at h1
        have h2 := outTo_len P D (regs0 regs.toNat (runLen P D)) P.length
        omega
      have HSO := hide (sameOutputs_eq vO vX O X wo.heap.size (w7.heap.size + 1) w8 hO8 hX (by omega) (by omega) hsh hal hap hOl w.heap.size (by omega))
      clear hO8 hX hxv hsh hal hap hox h8 hb8 hbal hbw8
      go_wp2_with fail
      refine HSO.out.mono ?_
      rintro e w9 ⟨rfl, hb9⟩
      go_wp2_with (go_at_call 15; refine (num_any _ _).mono ?_; rintro e w' ⟨rfl, rfl⟩)
      go_ret
      exact ⟨rfl, hbw9.trans hb9⟩
set_option maxRecDepth 100000 in
set_option maxHeartbeats 8000000 in
theorem runs_err (regs : Int) (v vd : Value) (P : List St) (D : List (List Nat)) (gone : Nat) (w : World) (h : Ps .u8 w v P) (hP : ∀ s ∈ P, okInts s) (hl : P.length ≤ 5000) (hd : Rd w vd D) (hwt : wgt D D.length ≤ 100000) (hN : D.length ≤ 64) (hgn : gone < 18446744073709551616) (hg : globalLaid w) (x : Int) (hcase : (okProg regs P D.length ∧ ¬ ldsOk P D gone ∧ x = 2) ∨ (¬ okProg regs P D.length ∧ x = 4)) :
    Calls Tryd.prog 7 #[.agg #[.int .i64 regs, v], vd, .int .u64 gone] w fun e w' => e = .returned (.bool true) ∧ Below w.heap.size w w' := by
  have HC := hide hcase
  have hx0 : (x == 0) = false := by
    rw [beq_eq_false_iff_ne]
    rcases hcase with ⟨_, _, rfl⟩ | ⟨_, rfl⟩ <;> decide
  have hxx : (x == x) = true := by simp
  have heq := fun wx => Lib.run_eql_slice_nil (P := Tryd.prog) wx 60 95 none 0 0 0 0 Tryd.underlying60
  clear hcase
  obtain ⟨i0, hi0, hz0, hz1, hz2⟩ := info_parts Tryd.infoBool
  have hlt0 : 0 < w.heap.size := block_lt_of_cell hg
  have hb0 : Below w.heap.size w (w.alloc (.cells #[.int .i64 regs, v] 49)) := (Below.refl _ _).alloc (Nat.le_refl _) _
  have hd0 := hd.mono hb0
  have HP := hide hP
  have HW := hide hwt
  have HLEN : Hid (∀ l ∈ D, l.length ≤ 100000) := fun l hm => by
    obtain ⟨i, hi, rfl⟩ := List.mem_iff_getElem.1 hm
    exact row_le D i hi hwt
  obtain ⟨ao, c, rfl⟩ := h.slice
  obtain ⟨ad, cd, rfl, _⟩ := id hd
  have H := hide h
  have HD := hide hd
  have HG := hide hg
  have hDl : D.length ≤ 100000 := by omega
  clear h hd hP hwt hg
  have hlI : ¬ (5000 : Int) < (P.length : Int) := by omega
  have hNI : ¬ (64 : Int) < (D.length : Int) := by omega
  go_enter Tryd.func7, Tryd.ntmps7
  go_wp2_with fail
  refine (weight_any _ D _ hd0).mono ?_
  rintro e wa ⟨r, rfl, hrr, rfl⟩
  by_cases hbig : (100000 : Int) < (r : Int)
  · clear hrr
    go_wp2
    go_ret
    exact ⟨rfl, hb0⟩
  clear hrr
  go_wp2_with fail
  refine (roomies_any _ D _ hd0 HW.out).mono ?_
  rintro e w1 ⟨vr, T, rfl, hT, hRoom, hb1⟩
  rw [nblk_alloc] at hT hb1
  have hs1 := hb1.size
  rw [nblk_alloc] at hs1
  obtain ⟨p0, p1⟩ := box2 hb1 rfl
  have hbw1 := hb0.trans (hb1.mono (by omega))
  have hTlen := hRoom.len
  have HRM := hide hRoom
  obtain ⟨ar, cr, hvr, har⟩ := hT.slice
  rw [hTlen] at hvr
  subst hvr
  have HTT := hide hT
  have HTB : Hid (∀ p ∈ T, p.1 < w1.heap.size) := fun p hp => (hT.row p hp).2.1.lt
  clear hRoom hd0 hT
  go_wp2_with (at_make; refine wpList_mkRows _ rfl (.tmp 39) (.tmp 39) rfl _ D.length rfl rfl rfl (by omega) ?_; intro w2 hRow hb2 hz2'; have hs2 := hb2.size; have hs2' := hz2'; clear hz2')
  have HS2 := hide hs2'
  clear hs2'
  go_loopw [9, 11] (fun nv iv wr => RwR w1 w2 w1.heap.size D.length gone T nv iv wr) (fun _ iv _ => D.length - (intOf iv).toNat)
  case atStart => exact ⟨0, Nat.zero_le _, rfl, World.ownsRow_nil _ _ _ _, hRow.congr (fun i _ => by rw [inV_zero]), hb2⟩
  case round =>
    clear hRow hb2
    rename World => wo
    obtain ⟨k, hk, rfl, hown, hrow, hbo⟩ := hrel
    have hso := hbo.size
    have hs2w : w2.heap.size ≤ wo.heap.size ∨ True := .inr trivial
    clear hs2w
    by_cases hlt : k < D.length
    · obtain ⟨gr, rfl⟩ := har (by intro e; rw [e] at hTlen; simp at hTlen; omega)
      have hkT : k < T.length := by omega
      have hTo := HTT.out.below hbo
      have hcT := hTo.cell_at hkT
      have hblt := hrow.lt
      have HBL := hide (bl_succ gone k)
      have HIG := hide (fun i => inV_gone T gone k i)
      have HIH := hide (fun i h => inV_here T gone k i h hkT)
      have HROW := hide hrow
      have HOWN := hide hown
      have HBO := hide hbo
      have HLT := hide hown.lt
      have h2o : w2.heap.size ≤ wo.heap.size := by
        have := HS2.out
        omega
      clear hown hTo
      have hcS := hrow.cell hlt
      have hfS := hrow.frozen k
      obtain ⟨⟨tb, tn, tl⟩, hTk⟩ : ∃ p, p = T[k] := ⟨_, rfl⟩
      have HTK := hide hTk
      rw [← hTk] at hcT
      unfold hdr at hcT
      simp only at hcT
      obtain ⟨z, hz⟩ : ∃ z, goneV gone k = z := ⟨_, rfl⟩
      have HZ := hide hz
      clear hrow hbo hTk hz
      cases z
      · go_wp2_with (first
          | (go_at_call 26; refine (has_any' gone k hgn (by omega) _).mono ?_; rintro e w' ⟨rfl, hw⟩; have hw2 := hw.symm; clear hw; subst hw2; rw [HZ.out])
          | (at_builtin; refine wpList_append_own _ rfl (.tmp 50) (.tmp 52) 58 rfl w2.heap.size 4 i0 (.bool false) 1 1 Tryd.underlying58 hi0 hz0 hz1 hz2 rfl (by decide) _ k (bl gone k) rfl (ownsRow_below HOWN.out ((Below.refl _ _).alloc (Nat.le_refl _) _)) ⟨wo.heap.size, 0, none⟩ 1 1 [.bool false] rfl rfl (one_new _ _ rfl _ _) (by simp [Value.oneCell']) (by unfold maxLen; omega) (by omega) (by rw [nblk_alloc]; omega) ?_; intro v' w5 hown' hgrow hnn
             have hb5 : Below w1.heap.size w1 w5 := (HBO.out.alloc (by omega) _).grown hgrow (by rw [nblk_alloc]; omega) (fun q hq => by have := (HLT.out q hq).1; omega)
             have hcT5 := hgrow.cell ((((Below.refl _ _).alloc (Nat.le_refl _) _).cell (block_lt_of_cell hcT)).trans hcT) (fun e => by have h1 := (HLT.out _ e.symm).1; have h2 := block_lt_of_cell (HTT.out.cell_at hkT); simp at h1 h2; omega)
             have hrow5 : w5.rowIs w1.heap.size 44 D.length (inV T gone k) := (HROW.out.alloc _).of_block (hgrow.block _ (by rw [nblk_alloc]; omega) (fun e => by have h1 := (HLT.out _ e.symm).1; have h2 := HS2.out; omega))
             have hcS5 := hrow5.cell hlt
             have hfS5 := hrow5.frozen k
             have HR5 := hide hrow5
             have HO5 := hide hown'
             have HB5 := hide hb5
             clear hrow5 hown' hgrow hnn hb5))
        have hset := HR5.out.set k (.slice (some ⟨tb, 0, none⟩) tn tl.length)
        refine ⟨⟨k + 1, by omega, by go_num, ?_, hset.congr (fun i _ => ?_), HB5.out.setCell (by simp) _⟩, by simp [intOf]; omega⟩
        · rw [HBL.out, HZ.out]
          exact HO5.out.kept (grown_set' _ _ _ _) (.inr (fun e => by have h1 := (HO5.out.lt _ e).1; have h2 := HS2.out; omega))
        · rw [HIH.out i HZ.out, ← HTK.out]; rfl
      · go_wp2_with (first
          | (go_at_call 26; refine (has_any' gone k hgn (by omega) _).mono ?_; rintro e w' ⟨rfl, hw⟩; have hw2 := hw.symm; clear hw; subst hw2; rw [HZ.out])
          | (at_builtin; refine wpList_append_own _ rfl (.tmp 50) (.tmp 52) 58 rfl w2.heap.size 4 i0 (.bool false) 1 1 Tryd.underlying58 hi0 hz0 hz1 hz2 rfl (by decide) _ k (bl gone k) rfl (ownsRow_below HOWN.out ((Below.refl _ _).alloc (Nat.le_refl _) _)) ⟨wo.heap.size, 0, none⟩ 1 1 [.bool true] rfl rfl (one_new _ _ rfl _ _) (by simp [Value.oneCell']) (by unfold maxLen; omega) (by omega) (by rw [nblk_alloc]; omega) ?_; intro v' w5 hown' hgrow hnn
             have hb5 : Below w1.heap.size w1 w5 := (HBO.out.alloc (by omega) _).grown hgrow (by rw [nblk_alloc]; omega) (fun q hq => by have := (HLT.out q hq).1; omega)
             have hrow5 : w5.rowIs w1.heap.size 44 D.length (inV T gone k) := (HROW.out.alloc _).of_block (hgrow.block _ (by rw [nblk_alloc]; omega) (fun e => by have h1 := (HLT.out _ e.symm).1; have h2 := HS2.out; omega))
             have HR5 := hide hrow5
             have HO5 := hide hown'
             have HB5 := hide hb5
             clear hrow5 hown' hgrow hnn hb5))
        go_roundw
        case rel => exact ⟨k + 1, by omega, by go_num, by rw [HBL.out, HZ.out]; exact HO5.out, HR5.out.congr (fun i _ => by rw [HIG.out i HZ.out]), HB5.out⟩
        case measure => simp [intOf]; omega
    · have hkk : k = D.length := by omega
      subst hkk
      have hTo := HTT.out.below hbo
      have hIn := in_of hTo HRM.out hrow HLEN.out
      have hbwo := hbw1.trans (hbo.mono (by omega))
      have q0 := (hbo.cell (block_lt_of_cell p0)).trans p0
      have q1 := (hbo.cell (block_lt_of_cell p1)).trans p1
      have HOWN := hide hown
      have HTO := hide hTo
      have HIN := hide hIn
      have hbil := hrow.lt
      clear hown hTo hIn hrow p0 p1
      go_wp2_with fail
      refine (srun_any regs _ P w1.heap.size D.length D gone wo (H.out.mono hbwo) HP.out HIN.out hbil HLEN.out hl).mono ?_
      rintro e w4 ⟨_, h42, h44, hb4⟩
      have he : e = .returned (.tuple #[.slice none 0 0, .iface 29 (.int .i64 x)]) := by
        rcases HC.out with ⟨a, b, rfl⟩ | ⟨a, rfl⟩
        · exact h42 a b
        · exact h44 a
      subst he
      clear q0 q1 h42 h44
      have hs4 := hb4.size
      have hbw4 := hbwo.trans (hb4.mono (by omega))
      have hg4 : globalLaid w4 := by
        have := HG.out
        unfold globalLaid at *
        rw [hbw4.cell hlt0]; exact this
      go_wp2_with fail
      refine (tell_errno x _ hg4).mono ?_
      rintro e w5 ⟨rfl, hb5⟩
      clear hg4
      have hs5 := hb5.size
      have hb45 : Below wo.heap.size wo w5 := hb4.trans (hb5.mono (by omega))
      have hbw5 := hbwo.trans (hb45.mono (by omega))
      have hT5 := HTO.out.below hb45
      go_wp2_with fail
      refine (allStill_any _ _ T D (w.heap.size + 1) w w5 hT5 HRM.out HD.out (by omega) hbw5 (by omega) HW.out).mono ?_
      rintro e w6 ⟨rfl, hon⟩
      have hs6 := hon.size
      have hb56 := hon.below (B := w.heap.size + 1) (fun p hp => (hT5.row p hp).1) (by omega)
      have hbw6 : Below w.heap.size w w6 := hbw5.trans (hb56.mono (by omega))
      have HG6 := hide (gn_of (ownsRow_only (ownsRow_below HOWN.out hb45) hon (fun p hp => by have := HTB.out p hp; have := HS2.out; omega)))
      have hb16 := hb1.trans ((hbo.mono (by omega)).trans ((hb45.mono (by omega)).trans hb56))
      obtain ⟨r0, r1⟩ := box2 hb16 rfl
      clear hT5 hb16 hb56 hon
      go_wp2_with fail
      refine (program_any regs _ P _ (H.out.mono hbw6) hl (fun s hs => (HP.out s hs).1)).mono ?_
      rintro e w7 ⟨v7, rfl, hv7, hb7⟩
      have hs7 := hb7.size
      have hbw7 := hbw6.trans (hb7.mono (by omega))
      obtain ⟨a7, c7, rfl⟩ := hv7.slice
      have H7 := hide hv7
      have HG7 := hide (HG6.out.mono hb7)
      clear r0 r1 hv7
      have hbal := (Below.refl w7.heap.size w7).alloc (Nat.le_refl _) (.cells #[.int .i64 regs, .slice a7 P.length c7] 53)
      have hbw8 : Below w.heap.size w (w7.alloc (.cells #[.int .i64 regs, .slice a7 P.length c7] 53)) := hbw7.alloc (by omega) _
      go_wp2_with fail
      refine (rrun_any regs _ _ _ P D gone _ (H7.out.mono hbal) HP.out (HD.out.mono hbw8) (HG7.out.mono hbal) HLEN.out hl).mono ?_
      rintro e w8 ⟨_, h82, h84, hb8⟩
      have he : e = .returned (.tuple #[.slice none 0 0, .int .i64 x]) := by
        rcases HC.out with ⟨a, b, rfl⟩ | ⟨a, rfl⟩
        · exact h82 a b
        · exact h84 a
      subst he
      rw [nblk_alloc] at hb8
      have hs8 := hb8.size
      rw [nblk_alloc] at hs8
      have hbw9 := hbw8.trans (hb8.mono (by omega))
      have HSO := hide (sameOutputs_eq (.slice none 0 0) (.slice none 0 0) [] [] w.heap.size w.heap.size w8 (Outs.nil _ _ _) (Outs.nil _ _ _) (by omega) (by omega) rfl rfl (fun p hp => by simp [rowsOf] at hp) (by simp) w.heap.size (Nat.le_refl _))
      clear h82 h84 hb8 hbal hbw8
      go_wp2_with fail
      refine HSO.out.mono ?_
      rintro e w9 ⟨rfl, hb9⟩
      go_wp2_with (go_at_call 15; refine (num_any _ _).mono ?_; rintro e w' ⟨rfl, rfl⟩)
      go_ret
      exact ⟨rfl, hbw9.trans hb9⟩
set_option maxRecDepth 100000 in
set_option maxHeartbeats 4000000 in
theorem runs_big (regs : Int) (ao : Option Addr) (len cap : Nat) (vd : Value) (D : List (List Nat)) (gone : Int) (w : World) (hd : Rd w vd D) (hb : ¬ wgt D D.length ≤ 100000 ∨ 5000 < len ∨ 64 < D.length) :
    Calls Tryd.prog 7 #[.agg #[.int .i64 regs, .slice ao len cap], vd, .int .u64 gone] w fun e w' => e = .returned (.bool true) ∧ Below w.heap.size w w' := by
  have hb0 : Below w.heap.size w (w.alloc (.cells #[.int .i64 regs, .slice ao len cap] 49)) := (Below.refl _ _).alloc (Nat.le_refl _) _
  have hd0 := hd.mono hb0
  obtain ⟨ad, cd, rfl, _⟩ := id hd
  clear hd
  go_enter Tryd.func7, Tryd.ntmps7
  go_wp2_with fail
  refine (weight_any _ D _ hd0).mono ?_
  rintro e wa ⟨r, rfl, hr, rfl⟩
  have h1 : (100000 : Int) < (r : Int) ∨ (5000 : Int) < (len : Int) ∨ (64 : Int) < (D.length : Int) := by
    rcases hb with h | h | h
    · left
      have : ¬ r ≤ 100000 := fun h' => h (hr h')
      omega
    · right; left; omega
    · right; right; omega
  clear hr hb hd0
  by_cases g1 : (100000 : Int) < (r : Int)
  · clear h1
    go_wp2
    go_ret
    exact ⟨rfl, hb0⟩
  · by_cases g2 : (5000 : Int) < (len : Int)
    · clear h1
      go_wp2
      go_ret
      exact ⟨rfl, hb0⟩
    · have g3 : (64 : Int) < (D.length : Int) := by omega
      clear h1
      go_wp2
      go_ret
      exact ⟨rfl, hb0⟩
end Go.Proofs.YthhommjlomphdaaDoor
