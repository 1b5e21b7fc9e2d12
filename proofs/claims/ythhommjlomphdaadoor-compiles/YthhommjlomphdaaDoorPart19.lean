import Derived.Test.YthhommjlomphdaaDoorPart17
import Derived.Test.YthhommjlomphdaaDoorPart15
import Derived.Deep.AppendLies
/-
  What a program puts out: lists of shards, and the law's comparison of two of them.
-/
namespace Go.Proofs.YthhommjlomphdaaDoor
open Go.RowKit Go.Deep

/-- a shard's number and its row -/
def outc : List (Int × Nat × Nat × List Nat) → List Value
  | [] => []
  | q :: O => [.int .i64 q.1, hdr q.2] ++ outc O
theorem outc_len : ∀ O, (outc O).length = O.length * 2
  | [] => rfl
  | q :: O => by simp [outc, outc_len O]; omega
theorem outc_append : ∀ O O', outc (O ++ O') = outc O ++ outc O'
  | [], _ => rfl
  | q :: O, O' => by simp [outc, outc_append O O']
theorem outc_at : ∀ (O : List (Int × Nat × Nat × List Nat)) (i : Nat) (hi : i < O.length), (outc O)[i * 2]? = some (.int .i64 O[i].1) ∧ (outc O)[i * 2 + 1]? = some (hdr O[i].2)
  | q :: O, 0, _ => by simp [outc]
  | q :: O, i + 1, hi => by
    have := outc_at O i (by simpa using hi)
    have e1 : (i + 1) * 2 = i * 2 + 2 := by omega
    have e2 : (i + 1) * 2 + 1 = i * 2 + 1 + 2 := by omega
    simp only [outc, List.getElem_cons_succ]
    refine ⟨?_, ?_⟩
    · rw [e1]; simpa using this.1
    · rw [e2]; simpa using this.2
structure Outs (t : TypeId) (w : World) (base : Nat) (v : Value) (O : List (Int × Nat × Nat × List Nat)) : Prop where
  own : w.ownsRow base t 2 v O.length (outc O)
  row : ∀ q ∈ O, base ≤ q.2.1 ∧ Brow w q.2.1 q.2.2.2 ∧ q.2.2.1 ≤ q.2.2.2.length ∧ (q.2.2.1 ≤ 140737488355328 ∧ q.2.2.2.length ≤ 9223372036854775807) ∧ ∀ x ∈ q.2.2.2, x < 256
  nodup : (O.map (fun q => q.2.1)).Nodup
theorem Outs.nil (t : TypeId) (w : World) (base : Nat) : Outs t w base (.slice none 0 0) [] := ⟨World.ownsRow_nil _ _ _ _, fun q hq => by simp at hq, by simp⟩
theorem Outs.below {t : TypeId} {w w' : World} {base : Nat} {v : Value} {O : List (Int × Nat × Nat × List Nat)} (h : Outs t w base v O) (hb : Below w.heap.size w w') : Outs t w' base v O :=
  ⟨ownsRow_below h.own hb, fun q hq => by obtain ⟨a, b, c⟩ := h.row q hq; exact ⟨a, b.below hb, c⟩, h.nodup⟩
theorem Outs.cases {t : TypeId} {w : World} {base : Nat} {v : Value} {O : List (Int × Nat × Nat × List Nat)} (h : Outs t w base v O) : (O = [] ∧ v = .slice none 0 0) ∨ ∃ g cap, v = .slice (some ⟨g, 0, none⟩) O.length cap ∧ ∀ i (hi : i < O.length), w.cell? ⟨g, i * 2, none⟩ = some (.int .i64 O[i].1) ∧ w.cell? ⟨g, i * 2 + 1, none⟩ = some (hdr O[i].2) := by
  rcases h.own.2 with ⟨h0, h1⟩ | ⟨g, cap, cur, e1, _⟩
  · exact .inl ⟨List.eq_nil_of_length_eq_zero h1, h0⟩
  · refine .inr ⟨g, cap, e1, fun i hi => ?_⟩
    have ho := h.own
    rw [e1] at ho
    obtain ⟨q1, q2⟩ := outc_at O i hi
    exact ⟨by rw [ho.cellAt (i * 2) (by omega)]; exact q1, by rw [ho.cellAt (i * 2 + 1) (by omega)]; exact q2⟩
def rowsOf (O : List (Int × Nat × Nat × List Nat)) : List (Nat × Nat × List Nat) := O.map (fun q => q.2)
def SoR (w : World) (K L : List (Int × Nat × Nat × List Nat)) (xv yv iv : Value) (wr : World) : Prop :=
  ∃ k : Nat, k ≤ K.length ∧ iv = .int .i64 k ∧ wr.ownsRow w.heap.size 44 1 xv k ((rowsOf (K.take k)).map hdr) ∧ wr.ownsRow w.heap.size 44 1 yv k ((rowsOf (L.take k)).map hdr) ∧ (∀ j, xv.ownBlock = some j → yv.ownBlock ≠ some j) ∧ Below w.heap.size w wr
theorem rows_succ (K : List (Int × Nat × Nat × List Nat)) (k : Nat) (hk : k < K.length) : (rowsOf (K.take (k + 1))).map hdr = (rowsOf (K.take k)).map hdr ++ [hdr K[k].2] := by
  unfold rowsOf
  rw [List.take_succ_eq_append_getElem hk, List.map_append, List.map_append]
  rfl
theorem Outs.tab {t : TypeId} {w w' : World} {base : Nat} {v vx : Value} {O : List (Int × Nat × Nat × List Nat)} (h : Outs t w base v O) (hb : Below w.heap.size w w') (ho : w'.ownsRow w.heap.size 44 1 vx O.length ((rowsOf O).map hdr)) (hB : base ≤ w.heap.size) : Tab w' base vx (rowsOf O) :=
  ⟨by have := ownsRow_weaken ho hB; simpa [rowsOf] using this, fun p hp => by
    simp only [rowsOf, List.mem_map] at hp
    obtain ⟨q, hq, rfl⟩ := hp
    obtain ⟨a, b, c⟩ := h.row q hq
    exact ⟨a, b.below hb, c⟩, by have := h.nodup; simpa [rowsOf, Function.comp_def] using this⟩
set_option maxRecDepth 100000 in
set_option maxHeartbeats 1000000 in
theorem sameOutputs_nil (K L : List (Int × Nat × Nat × List Nat)) (g cap : Nat) (vb : Value) (hK : K = []) (hL : L = []) (B base' : Nat) (w : World)
    (fin : ∀ (xv yv : Value) (wr : World), wr.ownsRow w.heap.size 44 1 xv K.length ((rowsOf K).map hdr) → wr.ownsRow w.heap.size 44 1 yv K.length ((rowsOf L).map hdr) → Below w.heap.size w wr → Calls Tryd.prog 14 #[xv, yv] wr fun e w' => e = .returned (.bool true) ∧ Below B w w')
    (hb : Outs 78 w base' vb L) : Calls Tryd.prog 29 #[.slice (some ⟨g, 0, none⟩) K.length cap, vb] w fun e w' => e = .returned (.bool true) ∧ Below B w w' := by
  subst hK hL
  obtain ⟨av, cv, rfl⟩ : ∃ av cv, vb = .slice av 0 cv := by
    rcases hb.cases with ⟨_, e⟩ | ⟨g, cap, e, _⟩
    · exact ⟨_, _, e⟩
    · exact ⟨_, _, e⟩
  have FIN := hide fin
  clear hb fin
  simp only [List.length_nil]
  go_enter Tryd.func29, Tryd.ntmps29
  go_wp2
  refine wp_loop_rounds 1 ?_
  rw [rounds_succ]
  go_wp2_with fail
  refine (FIN.out _ _ _ (World.ownsRow_nil _ _ _ _) (World.ownsRow_nil _ _ _ _) (Below.refl _ _)).mono ?_
  rintro e w' ⟨rfl, hbw⟩
  go_wp2
  go_ret
  exact ⟨rfl, hbw⟩
set_option maxRecDepth 100000 in
set_option maxHeartbeats 4000000 in
theorem sameOutputs_eq (va vb : Value) (K L : List (Int × Nat × Nat × List Nat)) (base base' : Nat) (w : World) (ha : Outs 95 w base va K) (hb : Outs 78 w base' vb L) (hba : base ≤ w.heap.size) (hbb : base' ≤ w.heap.size)
    (hsh : K.map (fun q => q.1) = L.map (fun q => q.1)) (hal : Alikes (rowsOf K) (rowsOf L)) (hap : Apart (rowsOf K) (rowsOf L)) (hl : K.length ≤ 5000) (B : Nat) (hB : B ≤ base) :
    Calls Tryd.prog 29 #[va, vb] w fun e w' => e = .returned (.bool true) ∧ Below B w w' := by
  obtain ⟨i0, hi0, hz0, hz1, hz2⟩ := info_parts Tryd.infoBytes
  have hlen : K.length = L.length := by simpa using congrArg List.length hsh
  have tl : (((K.length : Nat) : Int) != ((L.length : Nat) : Int)) = false := by simp [hlen]
  have HSH := hide hsh
  have HA := hide ha
  have HBO := hide hb
  have fin : ∀ (xv yv : Value) (wr : World), wr.ownsRow w.heap.size 44 1 xv K.length ((rowsOf K).map hdr) → wr.ownsRow w.heap.size 44 1 yv K.length ((rowsOf L).map hdr) → Below w.heap.size w wr → Calls Tryd.prog 14 #[xv, yv] wr fun e w' => e = .returned (.bool true) ∧ Below B w w' := by
    intro xv yv wr h1 h2 h3
    have hs := h3.size
    refine (sameAll_eq xv yv (rowsOf K) (rowsOf L) B base base' wr (HA.out.tab h3 h1 hba) (HBO.out.tab h3 (by rw [← hlen]; exact h2) hbb) (by omega) hB hal hap).mono ?_
    rintro e w' ⟨rfl, h4⟩
    exact ⟨rfl, (h3.mono (by omega)).trans h4⟩
  have FIN := hide fin
  clear fin hsh
  rcases ha.cases with ⟨rfl, rfl⟩ | ⟨g, cap, rfl, hc⟩
  · have hL : L = [] := List.eq_nil_of_length_eq_zero (by simpa using hlen.symm)
    subst hL
    obtain ⟨av, cv, rfl⟩ : ∃ av cv, vb = .slice av 0 cv := by
      rcases hb.cases with ⟨_, e⟩ | ⟨g, cap, e, _⟩
      · exact ⟨_, _, e⟩
      · exact ⟨_, _, e⟩
    clear ha hb HA HBO HSH hal hap
    go_enter Tryd.func29, Tryd.ntmps29
    go_wp2
    refine wp_loop_rounds 1 ?_
    rw [rounds_succ]
    go_wp2_with fail
    refine (FIN.out _ _ _ (World.ownsRow_nil _ _ _ _) (World.ownsRow_nil _ _ _ _) (Below.refl _ _)).mono ?_
    rintro e w' ⟨rfl, hbw⟩
    go_wp2
    go_ret
    exact ⟨rfl, hbw⟩
  · rcases hb.cases with ⟨hL, _⟩ | ⟨g', cap', rfl, hc'⟩
    · rw [hL] at hlen
      have hK : K = [] := List.eq_nil_of_length_eq_zero (by simpa using hlen)
      exact sameOutputs_nil K L g cap vb hK hL B base' w FIN.out HBO.out
    have HLEN := hide hlen
    clear ha hb hal hap hlen
    go_enter Tryd.func29, Tryd.ntmps29
    go_wp2
    go_loopw [5, 6, 7] (fun xv yv iv wr => SoR w K L xv yv iv wr) (fun _ _ iv _ => K.length - (intOf iv).toNat)
    case atStart => exact ⟨0, Nat.zero_le _, rfl, World.ownsRow_nil _ _ _ _, World.ownsRow_nil _ _ _ _, fun j hj => by simp [Value.ownBlock] at hj, Below.refl _ _⟩
    case round =>
      rename World => wo
      obtain ⟨k, hk, rfl, hox, hoy, hxy, hbo⟩ := hrel
      have hso := hbo.size
      by_cases hlt : k < K.length
      · obtain ⟨c0, c1⟩ := hc k hlt
        have hltL : k < L.length := by have := HLEN.out; omega
        obtain ⟨d0, d1⟩ := hc' k hltL
        have e0 := (hbo.cell (block_lt_of_cell c0)).trans c0
        have e1 := (hbo.cell (block_lt_of_cell c1)).trans c1
        have f0 := (hbo.cell (block_lt_of_cell d0)).trans d0
        have f1 := (hbo.cell (block_lt_of_cell d1)).trans d1
        have hsk : L[k].1 = K[k].1 := by
          have := List.getElem_of_eq HSH.out (i := k) (by simpa using hlt)
          simpa using this.symm
        rw [hsk] at f0
        have tt : (K[k].1 != K[k].1) = false := by simp
        have HKS := hide (rows_succ K k hlt)
        have HLS := hide (rows_succ L k hltL)
        clear hsk c0 c1 d0
        generalize K[k].1 = sn at *
        obtain ⟨⟨b1, n1, l1⟩, hk1⟩ : ∃ p, p = K[k].2 := ⟨_, rfl⟩
        obtain ⟨⟨b2, n2, l2⟩, hk2⟩ : ∃ p, p = L[k].2 := ⟨_, rfl⟩
        rw [← hk1] at e1 HKS
        rw [← hk2] at f1 d1 HLS
        simp only [hdr] at e1 f1 d1
        have FW := hide d1
        clear d1
        have HCC := hide hc
        have HCC' := hide hc'
        have HOX := hide hox
        have HOY := hide hoy
        clear hk1 hk2 hc hc' hox hoy
        have hne : u6.ownBlock = none ∨ u6.ownBlock ≠ u5.ownBlock := by
          cases h6 : u6.ownBlock with
          | none => exact .inl rfl
          | some j => exact .inr (fun e => hxy j e.symm h6)
        have HNE := hide hne
        clear hne
        have HXY := hide hxy
        clear hxy
        go_wp2
        go_quiet (fail)
        rename_i nq
        have hbq : Below w.heap.size w (wo.drewN nq) := ⟨hbo.os, hbo.tape, hbo.output, hbo.size, hbo.block⟩
        have HOXq := hide (show (wo.drewN nq).ownsRow _ _ _ _ _ _ from HOX.out)
        have HOYq := hide (show (wo.drewN nq).ownsRow _ _ _ _ _ _ from HOY.out)
        have e1q : (wo.drewN nq).cell? _ = _ := e1
        have f1q : (wo.drewN nq).cell? _ = _ := f1
        have hsq : w.heap.size ≤ (wo.drewN nq).heap.size := hso
        generalize wo.drewN nq = wq at *
        clear e0 e1 f0 f1 HOX HOY hbo hso
        have HLX := hide HOXq.out.lt
        have HLY := hide HOYq.out.lt
        go_wp2_with (first
          | (at_builtin; refine wpList_append_lies _ rfl (.tmp 30) (.tmp 36) 24 rfl w.heap.size 44 i0 (.slice none 0 0) 1 24 Tryd.underlying24 hi0 hz0 hz1 hz2 rfl (by decide) u5 k _ rfl (ownsRow_below HOXq.out ((Below.refl _ _).alloc (Nat.le_refl _) _)) ⟨wq.heap.size, 0, none⟩ 1 1 [.slice (some ⟨b1, 0, none⟩) n1 l1.length] rfl rfl (one_new _ _ rfl _ _) (by simp [Value.oneCell']) (by decide) (by unfold maxLen; omega) (by omega) (by rw [nblk_alloc]; omega) (wq.heap.size + 1) (nblk_alloc _ _) ?_; intro gx cx w4 hown4 hgr4 hat4 hlt4
             have hb4 : Below w.heap.size w w4 := (hbq.alloc hsq _).grown hgr4 (by rw [nblk_alloc]; omega) (fun q hq => (HLX.out q hq).1)
             have hs4 := hgr4.size
             rw [nblk_alloc] at hs4
             have f4 := (hb4.cell (block_lt_of_cell FW.out)).trans FW.out
             have hy4 := (ownsRow_below HOYq.out ((Below.refl _ _).alloc (Nat.le_refl _) (.cells #[.slice (some ⟨b1, 0, none⟩) n1 l1.length] 44))).kept hgr4 HNE.out
             have hdx : u6.ownBlock ≠ some gx := fun e => by
               rcases hat4 with h | h
               · exact HXY.out gx h e
               · have := (HLY.out gx e).2; omega
             have HY4 := hide hy4
             have HX4 := hide hown4
             have HDX := hide hdx
             clear hown4 hgr4 hat4 hy4 hdx)
          | (at_builtin; refine wpList_append_lies _ rfl (.tmp 38) (.tmp 44) 24 rfl w.heap.size 44 i0 (.slice none 0 0) 1 24 Tryd.underlying24 hi0 hz0 hz1 hz2 rfl (by decide) u6 k _ rfl (ownsRow_below HY4.out ((Below.refl _ _).alloc (Nat.le_refl _) _)) ⟨w4.heap.size, 0, none⟩ 1 1 [.slice (some ⟨b2, 0, none⟩) n2 l2.length] rfl rfl (one_new _ _ rfl _ _) (by simp [Value.oneCell']) (by decide) (by unfold maxLen; omega) (by omega) (by rw [nblk_alloc]; omega) (w4.heap.size + 1) (nblk_alloc _ _) ?_; intro gy cy w5 hown5 hgr5 hat5 hlt5
             have hx5 := (ownsRow_below HX4.out ((Below.refl _ _).alloc (Nat.le_refl _) (.cells #[.slice (some ⟨b2, 0, none⟩) n2 l2.length] 44))).kept hgr5 (.inr (fun e => HDX.out e.symm))
             have hb5 : Below w.heap.size w w5 := (hb4.alloc hb4.size _).grown hgr5 (by rw [nblk_alloc]; have := hb4.size; omega) (fun q hq => (HY4.out.lt q hq).1)
             have hxy5 : gx ≠ gy := fun e => by
               rcases hat5 with h | h
               · exact HDX.out (by rw [h, e])
               · omega
             have HX5 := hide hx5
             have HY5 := hide hown5
             clear hown5 hgr5 hat5 hx5))
        go_wp2
        go_roundw
        case rel =>
          refine ⟨k + 1, by omega, by go_num, by rw [HKS.out]; exact HX5.out, by rw [HLS.out]; exact HY5.out, fun j hj => ?_, hb5⟩
          simp only [Value.ownBlock, Option.some.injEq] at hj
          subst hj
          intro e
          simp only [Value.ownBlock, Option.some.injEq] at e
          exact hxy5 e.symm
        case measure => simp [intOf]; omega
      · have hkk : k = K.length := by omega
        rw [hkk, List.take_length] at hox
        have hlen := HLEN.out
        rw [hkk, hlen, List.take_length, ← hlen] at hoy
        have FX := hide (FIN.out _ _ _ hox hoy hbo)
        clear hox hoy hc hc' hkk hlen
        go_wp2_with fail
        refine FX.out.mono ?_
        rintro e w' ⟨rfl, hbw⟩
        go_wp2
        go_ret
        exact ⟨rfl, hbw⟩
end Go.Proofs.YthhommjlomphdaaDoor
/-
  Whether a program can be packed: the program's word.
-/
namespace Go.Proofs.YthhommjlomphdaaDoor
open Go.RowKit Go.Deep

def okPk (s : St) : Prop := s.k ≤ 2 ∧ 0 ≤ s.a ∧ s.a ≤ 255 ∧ 0 ≤ s.b ∧ s.b ≤ 255 ∧ (s.k = 1 ∨ s.c = 0)
def okPack (regs : Int) (P : List St) : Prop := okHead regs P ∧ ∀ i (hi : i < P.length), okPk P[i]
set_option maxRecDepth 100000 in
set_option maxHeartbeats 2000000 in
theorem packableStep_any (s : St) (w : World) :
    Calls Tryd.prog 83 #[.agg #[.int .u8 s.k, .int .i64 s.a, .int .i64 s.b, .int .u8 s.c]] w fun r w' => BIs (okPk s) w r w' := by
  obtain ⟨k, a, b, c⟩ := s
  have hbw : Below w.heap.size w (w.alloc (.cells #[.int .u8 k, .int .i64 a, .int .i64 b, .int .u8 c] 92)) := (Below.refl _ _).alloc (Nat.le_refl _) _
  by_cases k1 : k = 1
  · subst k1
    by_cases ha : inB a 256
    · by_cases hb : inB b 256
      · have HA := hide ha
        have HB := hide hb
        clear ha hb
        go_enter Tryd.func83, Tryd.ntmps83
        go_wp2_with fail
        refine (within_yes _ _ HA.out _).mono ?_
        rintro e w' ⟨rfl, rfl⟩
        go_wp2_with fail
        refine (within_yes _ _ HB.out _).mono ?_
        rintro e w' ⟨rfl, rfl⟩
        go_wp2
        go_ret
        refine ⟨_, rfl, ?_, hbw⟩
        have qa := HA.out
        have qb := HB.out
        unfold okPk
        unfold inB at qa qb
        simp
        omega
      · have HA := hide ha
        have HB := hide hb
        clear ha hb
        go_enter Tryd.func83, Tryd.ntmps83
        go_wp2_with fail
        refine (within_yes _ _ HA.out _).mono ?_
        rintro e w' ⟨rfl, rfl⟩
        go_wp2_with fail
        refine (within_no _ _ HB.out _).mono ?_
        rintro e w' ⟨rfl, rfl⟩
        go_wp2
        go_ret
        refine ⟨_, rfl, ?_, hbw⟩
        have qa := HA.out
        have qb := HB.out
        unfold okPk
        unfold inB at qa qb
        simp
        omega
    · have HA := hide ha
      clear ha
      go_enter Tryd.func83, Tryd.ntmps83
      go_wp2_with fail
      refine (within_no _ _ HA.out _).mono ?_
      rintro e w' ⟨rfl, rfl⟩
      go_wp2
      go_ret
      refine ⟨_, rfl, ?_, hbw⟩
      have qa := HA.out
      unfold okPk
      unfold inB at qa
      simp
      omega
  · by_cases k0 : k = 0 ∨ k = 2
    · by_cases hc : c = 0
      · subst hc
        by_cases ha : inB a 256
        · by_cases hb : inB b 256
          · rcases k0 with rfl | rfl
            all_goals
              have HA := hide ha
              have HB := hide hb
              clear ha hb
              go_enter Tryd.func83, Tryd.ntmps83
              go_wp2_with fail
              refine (within_yes _ _ HA.out _).mono ?_
              rintro e w' ⟨rfl, rfl⟩
              go_wp2_with fail
              refine (within_yes _ _ HB.out _).mono ?_
              rintro e w' ⟨rfl, rfl⟩
              go_wp2
              go_ret
              refine ⟨_, rfl, ?_, hbw⟩
              have qa := HA.out
              have qb := HB.out
              unfold okPk
              unfold inB at qa qb
              simp
              omega
          · rcases k0 with rfl | rfl
            all_goals
              have HA := hide ha
              have HB := hide hb
              clear ha hb
              go_enter Tryd.func83, Tryd.ntmps83
              go_wp2_with fail
              refine (within_yes _ _ HA.out _).mono ?_
              rintro e w' ⟨rfl, rfl⟩
              go_wp2_with fail
              refine (within_no _ _ HB.out _).mono ?_
              rintro e w' ⟨rfl, rfl⟩
              go_wp2
              go_ret
              refine ⟨_, rfl, ?_, hbw⟩
              have qa := HA.out
              have qb := HB.out
              unfold okPk
              unfold inB at qa qb
              simp
              omega
        · rcases k0 with rfl | rfl
          all_goals
            have HA := hide ha
            clear ha
            go_enter Tryd.func83, Tryd.ntmps83
            go_wp2_with fail
            refine (within_no _ _ HA.out _).mono ?_
            rintro e w' ⟨rfl, rfl⟩
            go_wp2
            go_ret
            refine ⟨_, rfl, ?_, hbw⟩
            have qa := HA.out
            unfold okPk
            unfold inB at qa
            simp
            omega
      · have e0 : ((c : Int) == 0) = false := by rw [beq_eq_false_iff_ne]; omega
        have HC := hide hc
        clear hc
        rcases k0 with rfl | rfl
        all_goals
          go_enter Tryd.func83, Tryd.ntmps83
          go_wp2
          go_ret
          refine ⟨_, rfl, ?_, hbw⟩
          have := HC.out
          unfold okPk
          simp
          omega
    · have e0 : ((k : Int) == 0) = false := by rw [beq_eq_false_iff_ne]; omega
      have e1 : ((k : Int) == 1) = false := by rw [beq_eq_false_iff_ne]; omega
      have e2 : ((k : Int) == 2) = false := by rw [beq_eq_false_iff_ne]; omega
      have K0 := hide k0
      have K1 := hide k1
      clear k0 k1
      go_enter Tryd.func83, Tryd.ntmps83
      go_wp2
      go_ret
      refine ⟨_, rfl, ?_, hbw⟩
      have := K0.out
      have := K1.out
      unfold okPk
      simp
      omega
def PkR (w : World) (P : List St) (i : Value) (wr : World) : Prop := ∃ k : Nat, k ≤ P.length ∧ i = .int .i64 k ∧ (∀ j (hj : j < P.length), j < k → okPk P[j]) ∧ Below w.heap.size w wr
set_option maxRecDepth 100000 in
set_option maxHeartbeats 2000000 in
theorem packable_any (regs : Int) (v : Value) (P : List St) (w : World) (h : Ps .u8 w v P) :
    Calls Tryd.prog 69 #[.agg #[.int .i64 regs, v]] w fun r w' => BIs (okPack regs P) w r w' := by
  have hb0 : Below w.heap.size w (w.alloc (.cells #[.int .i64 regs, v] 49)) := (Below.refl _ _).alloc (Nat.le_refl _) _
  have h0 := h.mono hb0
  obtain ⟨ao, c, rfl⟩ := h.slice
  go_enter Tryd.func69, Tryd.ntmps69
  go_wp2_with fail
  refine (bounded_any regs _ P _ h0).mono ?_
  rintro r w1 ⟨b, rfl, hb, hb1⟩
  rw [nblk_alloc] at hb1
  obtain ⟨p0, p1⟩ := box2 hb1 rfl
  have hs1 := hb1.size
  rw [nblk_alloc] at hs1
  have hbw1 := hb0.trans (hb1.mono (by omega))
  cases b
  · have HN := hide (show ¬ okPack regs P from fun hp => by have := hb.2 hp.1; simp at this)
    clear hb hb1 h0 h hb0
    go_wp2
    go_ret
    exact ⟨false, rfl, by simp; exact HN.out, hbw1⟩
  · have HH := hide (hb.1 rfl)
    have h1 := h.mono hbw1
    clear hb hb1 h0 hb0 h
    rcases h1.cases with ⟨rfl, ao', c', e⟩ | ⟨b, off, c', e, _, hc⟩
    · simp at e
      obtain ⟨rfl, rfl⟩ := e
      clear h1
      go_wp2
      refine wp_loop_rounds 1 ?_
      rw [rounds_succ]
      go_wp2
      go_ret
      exact ⟨true, rfl, by simp; exact ⟨HH.out, fun i hi => by simp at hi⟩, hbw1⟩
    · simp at e
      obtain ⟨rfl, rfl⟩ := e
      clear h1
      go_wp2
      go_loopw [11] (fun i wr => PkR w1 P i wr) (fun i _ => P.length - (intOf i).toNat)
      case atStart => exact ⟨0, Nat.zero_le _, rfl, fun j _ hj => absurd hj (by omega), Below.refl _ _⟩
      case round =>
        rename World => wo
        obtain ⟨k, hk, rfl, hok, hbo⟩ := hrel
        have q0 := (hbo.cell (block_lt_of_cell p0)).trans p0
        have q1 := (hbo.cell (block_lt_of_cell p1)).trans p1
        by_cases hlt : k < P.length
        · obtain ⟨c0, c1, c2, c3⟩ := hc k hlt
          have d0 := (hbo.cell (block_lt_of_cell c0)).trans c0
          have d1 := (hbo.cell (block_lt_of_cell c1)).trans c1
          have d2 := (hbo.cell (block_lt_of_cell c2)).trans c2
          have d3 := (hbo.cell (block_lt_of_cell c3)).trans c3
          have HC := hide hc
          have HOK := hide hok
          clear hc hok c0 c1 c2 c3
          have q0' := (((Below.refl wo.heap.size wo).alloc (Nat.le_refl _) (.cells #[.int .u8 P[k].k, .int .i64 P[k].a, .int .i64 P[k].b, .int .u8 P[k].c] 92)).cell (block_lt_of_cell q0)).trans q0
          have hbo2 := hbo.alloc hbo.size (.cells #[.int .u8 P[k].k, .int .i64 P[k].a, .int .i64 P[k].b, .int .u8 P[k].c] 92)
          have hso := hbo.size
          go_wp2_with fail
          refine (packableStep_any P[k] _).mono ?_
          rintro r w2 ⟨b2, rfl, hb2, hbe⟩
          rw [nblk_alloc] at hbe
          have hbo3 := hbo2.trans (hbe.mono (by omega))
          have HB2 := hide hb2
          clear hbe hb2 d0 d1 d2 d3 q0 q1 q0' hbo hbo2
          cases b2
          · go_wp2
            go_ret
            exact ⟨false, rfl, by simp; exact fun hp => absurd (HB2.out.2 (hp.2 k hlt)) (by simp), hbw1.trans (hbo3.mono (by omega))⟩
          · go_wp2
            go_roundw
            case rel =>
              refine ⟨k + 1, by omega, by go_num, fun j hj hjk => ?_, hbo3⟩
              by_cases e : j = k
              · subst e; first | exact HB2.out.1 rfl | exact HB2.out.1 trivial
              · exact HOK.out j hj (by omega)
            case measure => simp [intOf]; omega
        · have hkk : k = P.length := by omega
          subst hkk
          have HOK := hide hok
          clear hc hok
          go_wp2
          go_ret
          exact ⟨true, rfl, by simp; exact ⟨HH.out, fun i hi => HOK.out i hi hi⟩, hbw1.trans (hbo.mono (by omega))⟩
end Go.Proofs.YthhommjlomphdaaDoor
