/-
  The law's own function that holds two lists of rows against each other, and writes into each row of the first.
-/
import Derived.Test.YthhommjlomphdaaDoorTabLaws
import Derived.Test.YthhommjlomphdaaDoorRooms
namespace Go.Proofs.YthhommjlomphdaaDoor
open Go.RowKit Go.Deep Gf

/-- the first i rows are written into -/
def stg (L : List (Nat × Nat × List Nat)) (i : Nat) : List (Nat × Nat × List Nat) :=
  (List.range L.length).map fun j => if j < i then ((L.getD j (0, 0, [])).1, (L.getD j (0, 0, [])).2.1, xr ((j + 1) % 256) (L.getD j (0, 0, [])).2.2) else L.getD j (0, 0, [])
theorem stg_len (L : List (Nat × Nat × List Nat)) (i : Nat) : (stg L i).length = L.length := by simp [stg]
theorem stg_zero (L : List (Nat × Nat × List Nat)) : stg L 0 = L := by
  unfold stg
  apply List.ext_getElem
  · simp
  · intro j h1 h2; simp [h2]
theorem stg_ge (L : List (Nat × Nat × List Nat)) (i j : Nat) (hj : j < L.length) (h : i ≤ j) (h' : j < (stg L i).length) : (stg L i)[j] = L[j] := by
  simp [stg, hj, Nat.not_lt.2 h]
theorem stg_lt (L : List (Nat × Nat × List Nat)) (i j : Nat) (hj : j < L.length) (h : j < i) (h' : j < (stg L i).length) : (stg L i)[j] = (L[j].1, L[j].2.1, xr ((j + 1) % 256) L[j].2.2) := by
  simp [stg, hj, h]
theorem stg_step (L : List (Nat × Nat × List Nat)) (i : Nat) (hi : i < L.length) : (stg L i).set i (L[i].1, L[i].2.1, xr ((i + 1) % 256) L[i].2.2) = stg L (i + 1) := by
  apply List.ext_getElem
  · simp [stg]
  · intro j h1 h2
    have hj : j < L.length := by simpa [stg] using h2
    rw [List.getElem_set]
    by_cases e : i = j
    · subst e; rw [if_pos rfl, stg_lt L _ _ hi (by omega)]
    · rw [if_neg e]
      by_cases e2 : j < i
      · rw [stg_lt L _ _ hj e2, stg_lt L _ _ hj (by omega)]
      · rw [stg_ge L _ _ hj (by omega), stg_ge L _ _ hj (by omega)]
theorem stg_fst (L : List (Nat × Nat × List Nat)) (i : Nat) : ∀ p ∈ stg L i, ∃ q ∈ L, p.1 = q.1 := by
  intro p hp
  obtain ⟨j, hj, rfl⟩ := List.mem_iff_getElem.1 hp
  have hj' : j < L.length := by simpa [stg] using hj
  refine ⟨L[j], List.getElem_mem hj', ?_⟩
  by_cases e : j < i
  · rw [stg_lt L _ _ hj' e]
  · rw [stg_ge L _ _ hj' (by omega)]
theorem Tab.drew {w : World} {base : Nat} {v : Value} {L : List (Nat × Nat × List Nat)} (h : Tab w base v L) (n : Nat) : Tab (w.drewN n) base v L :=
  h.below ⟨rfl, rfl, rfl, Nat.le_refl _, fun _ _ => rfl⟩
/-- the same bytes, row by row -/
def Alikes (K L : List (Nat × Nat × List Nat)) : Prop := K.map (fun p => p.2.2.take p.2.1) = L.map (fun p => p.2.2.take p.2.1)
theorem Alikes.len {K L : List (Nat × Nat × List Nat)} (h : Alikes K L) : K.length = L.length := by simpa using congrArg List.length h
theorem Alikes.at {K L : List (Nat × Nat × List Nat)} (h : Alikes K L) {i : Nat} (h1 : i < K.length) (h2 : i < L.length) : K[i].2.2.take K[i].2.1 = L[i].2.2.take L[i].2.1 := by
  have := List.getElem_of_eq h (i := i) (by simpa using h1)
  simpa using this

theorem Tab.le_max {w : World} {base : Nat} {v : Value} {L : List (Nat × Nat × List Nat)} (h : Tab w base v L) : L.length ≤ maxLen := by
  rcases h.shape with ⟨rfl, rfl⟩ | ⟨g, cap, rfl, _, h2, h3, _⟩
  · exact Nat.zero_le _
  · omega
def SA1 (w : World) (B base base' : Nat) (va vb : Value) (K L : List (Nat × Nat × List Nat)) (i : Value) (wr : World) : Prop :=
  ∃ k : Nat, k ≤ K.length ∧ i = .int .i64 k ∧ Tab wr base va (stg K k) ∧ Tab wr base' vb L ∧ Below B w wr ∧ B ≤ wr.heap.size
set_option maxRecDepth 100000 in
set_option maxHeartbeats 4000000 in
theorem sameAll_eq (va vb : Value) (K L : List (Nat × Nat × List Nat)) (B base base' : Nat) (w : World) (ha : Tab w base va K) (hb : Tab w base' vb L) (hB : B ≤ w.heap.size) (hba : B ≤ base) (hal : Alikes K L) (hap : Apart K L) :
    Calls Tryd.prog 14 #[va, vb] w fun e w' => e = .returned (.bool true) ∧ Below B w w' := by
  have hlen := hal.len
  obtain ⟨ao, cap, rfl, hao⟩ := ha.slice
  obtain ⟨bo, cap', rfl, hbo⟩ := hb.slice
  by_cases hnil : K = []
  · subst hnil
    have hL : L.length = 0 := hlen.symm
    rw [hL]
    clear ha hb hal hap hao hbo hL hlen
    go_enter Tryd.func14, Tryd.ntmps14
    go_wp2
    refine wp_loop_rounds 1 ?_
    rw [rounds_succ]
    go_wp2
    refine wp_loop_rounds 1 ?_
    rw [rounds_succ]
    go_wp2
    go_ret
    exact ⟨rfl, Below.refl _ _⟩
  obtain ⟨g, rfl⟩ := hao hnil
  obtain ⟨g', rfl⟩ := hbo (by intro e; rw [e] at hlen; exact hnil (List.eq_nil_of_length_eq_zero hlen))
  have hnn : (((K.length : Nat) : Int) != ((L.length : Nat) : Int)) = false := by rw [hlen]; simp
  have HL := hide hlen
  have hmx : K.length ≤ maxLen := ha.le_max
  unfold maxLen at hmx
  clear hlen hao hbo hnil
  go_enter Tryd.func14, Tryd.ntmps14
  go_wp2
  go_loopw [5] (fun i wr => SA1 w B base base' (.slice (some ⟨g, 0, none⟩) K.length cap) (.slice (some ⟨g', 0, none⟩) L.length cap') K L i wr) (fun i _ => K.length - (intOf i).toNat)
  case atStart => exact ⟨0, Nat.zero_le _, rfl, by rw [stg_zero]; exact ha, hb, Below.refl _ _, hB⟩
  case round =>
    rename World => wo
    obtain ⟨k, hk, rfl, hTa, hTb, hbel, hsz⟩ := hrel
    by_cases hlt : k < K.length
    · have hltL : k < L.length := by rw [← HL.out]; exact hlt
      have ca := hTa.cell_at (i := k) (by rw [stg_len]; exact hlt)
      have cb := hTb.cell_at hltL
      have hra := hTa.row_at (i := k) (by rw [stg_len]; exact hlt)
      have hrb := hTb.row_at hltL
      have hrow := hTa.row _ (List.getElem_mem (by rw [stg_len]; exact hlt : k < (stg K k).length))
      have hst := stg_step K k hlt
      rw [stg_ge K k k hlt (Nat.le_refl _)] at ca hra hrow
      rw [← hal.at hlt hltL] at hrb
      have hne := fun q hq => hap K[k] (List.getElem_mem hlt) q hq
      have hwr : ∀ (w2 : World) (l2 : List Nat), wo.grownBy w2 (some K[k].1) → Brow w2 K[k].1 l2 → l2.length = K[k].2.2.length → (∀ x ∈ l2, x < 256) → Tab w2 base (.slice (some ⟨g, 0, none⟩) K.length cap) ((stg K k).set k (K[k].1, K[k].2.1, l2)) := by
        intro w2 l2 q1 q2 q3 q4
        have e := stg_ge K k k hlt (Nat.le_refl _) (by rw [stg_len]; exact hlt)
        have := hTa.wrote (i := k) (by rw [stg_len]; exact hlt) (l' := l2) (w' := w2) (by rw [e]; exact q1) (by rw [e]; exact q2) (by rw [e]; exact q3) q4
        rw [e] at this
        exact this
      have hbase : base ≤ K[k].1 := hrow.1
      obtain ⟨⟨b, n, l⟩, hKk⟩ : ∃ p, p = K[k] := ⟨_, rfl⟩
      obtain ⟨⟨b', n', l'⟩, hLk⟩ : ∃ p, p = L[k] := ⟨_, rfl⟩
      rw [← hKk] at ca hra hrow hst hrb hne hwr hbase
      rw [← hLk] at cb hrb
      simp only [hdr] at ca cb hra hrb hrow hst hrb hne hwr hbase
      obtain ⟨r1, r2, r3, r4, r5⟩ := hrow
      have HS := hide hst
      have HW := hide hwr
      have HN := hide hne
      have hl47 : l.length ≤ 9223372036854775807 := r4.2
      clear hst hwr hne hKk hLk
      go_wp2
      go_quiet ((go_at_call 32; exact Calls.quiet_of (same_eq _ _ _ _ (hra.drew _) (hrb.drew _))))
      go_wp2
      go_quiet (fail)
      go_wp2
      obtain ⟨c, hc256, hc⟩ : ∃ c : Nat, c < 256 ∧ ((k : Int) + 1) % 256 = (c : Int) := ⟨(k + 1) % 256, by omega, by omega⟩
      have hcc : (k + 1) % 256 = c := by omega
      rw [hcc] at HS
      have hc2 := hide hcc
      clear hcc
      go_loopw [8] (fun j wr => SA2 wo b c l j wr) (fun j _ => l.length - (intOf j).toNat)
      case atStart => exact ⟨0, Nat.zero_le _, rfl, grown_drew (grown_drew (World.grownBy.refl _ _) _) _, by rw [xrTo_zero]; exact r2⟩
      case round =>
        obtain ⟨j, hj, rfl, hgr, hBj⟩ := hrel
        by_cases hjl : j < l.length
        · have c1 := hBj.cell j (by rw [xrTo_len]; exact hjl)
          have f1 := hBj.frozen j
          rw [xrTo_get c j l hjl] at c1
          have hx := getD_lt r5 j
          have hB2 := hBj.set j (l.getD j 0 ^^^ c)
          rw [xrTo_step] at hB2
          have hg2 := grown_set hgr j (.int .u8 ((l.getD j 0 ^^^ c : Nat) : Int))
          have hxx := u8_xor (l.getD j 0) c hx hc256
          generalize l.getD j 0 = x at *
          clear hBj hgr ca cb hra hrb HS HW HN
          go_wp2
          go_roundw
          case rel => exact ⟨j + 1, by omega, by go_num, hg2, hB2⟩
          case measure => simp [intOf]; omega
        · have hjj : j = l.length := by omega
          rw [hjj, xrTo_end] at hBj
          have hT2 := HW.out _ _ hgr hBj (xr_len c l) (xr_lt hc256 r5)
          rw [HS.out] at hT2
          have hTb2 := hTb.aside r2 hgr (fun q hq => (HN.out q hq).symm)
          have hb2 := grown_below hbel hgr hsz (by omega)
          have hs2 := hgr.size
          clear hBj hgr HS HW HN ca cb hra hrb hTa hTb hbel r2 hjj
          go_wp2
          go_roundw
          case rel => exact ⟨k + 1, by omega, by go_num, hT2, hTb2, hb2, by omega⟩
          case measure => simp [intOf]; omega
    · have hkK : k = K.length := by omega
      have hTe : Tab wo base (.slice (some ⟨g, 0, none⟩) K.length cap) (stg K K.length) := by rw [hkK] at hTa; exact hTa
      clear hTa hkK
      go_wp2
      go_loopw [9] (fun i wr => SameR wo K.length i wr) (fun i _ => K.length - (intOf i).toNat)
      case atStart => exact ⟨0, 0, Nat.zero_le _, rfl, rfl⟩
      case round =>
        obtain ⟨t, m, ht, rfl, rfl⟩ := hrel
        by_cases htl : t < K.length
        · have hltL : t < L.length := by rw [← HL.out]; exact htl
          have ca := hTe.cell_at (i := t) (by rw [stg_len]; exact htl)
          have cb := hTb.cell_at hltL
          have ra := (hTe.row _ (List.getElem_mem (by rw [stg_len]; exact htl : t < (stg K K.length).length)))
          have rb := (hTb.row _ (List.getElem_mem hltL))
          rw [stg_lt K _ _ htl htl] at ca ra
          have hat := hal.at htl hltL
          obtain ⟨⟨b, n, l⟩, hKk⟩ : ∃ p, p = K[t] := ⟨_, rfl⟩
          obtain ⟨⟨b', n', l'⟩, hLk⟩ : ∃ p, p = L[t] := ⟨_, rfl⟩
          rw [← hKk] at ca ra hat
          rw [← hLk] at cb rb hat
          simp only [hdr] at ca cb ra rb hat
          obtain ⟨r1, r2, r3, r4, r5⟩ := ra
          obtain ⟨s1, s2, s3, s4, s5⟩ := rb
          rw [xr_len] at r3 r4 ca
          have hnn' : n = n' := by
            have := congrArg List.length hat
            rw [List.length_take, List.length_take] at this
            omega
          subst hnn'
          have hn47 : n ≤ 140737488355328 := by omega
          obtain ⟨c, hc256, hc⟩ : ∃ c : Nat, c < 256 ∧ ((t : Int) + 1) % 256 = (c : Int) := ⟨(t + 1) % 256, by omega, by omega⟩
          have hcc : (t + 1) % 256 = c := by omega
          rw [hcc] at r2
          have HA := hide hat
          clear hcc hat hKk hLk r5
          go_wp2
          go_loopw [10] (fun i wr => SameR wo n i wr) (fun i _ => n - (intOf i).toNat)
          case atStart => exact ⟨0, m, Nat.zero_le _, rfl, rfl⟩
          case round =>
            obtain ⟨j, m', hj, rfl, rfl⟩ := hrel
            by_cases hjn : j < n
            · have c1 := r2.cell j (by rw [xr_len]; omega)
              have c2 := s2.cell j (by omega)
              have e : l.getD j 0 = l'.getD j 0 := by
                have := congrArg (fun z => z.getD j 0) HA.out
                simpa [hjn] using this
              rw [xr_get c l j (by omega), e] at c1
              have hx := getD_lt s5 j
              have hxx := u8_xor (l'.getD j 0) c hx hc256
              generalize l'.getD j 0 = x at *
              have hz : (((x ^^^ c : Nat) : Int) != ((x ^^^ c : Nat) : Int)) = false := by simp
              clear e HA r2 s2 hTe hTb
              go_wp2
              go_quiet (fail)
              go_wp2
              go_roundw
              case rel => exact ⟨j + 1, _, by omega, by go_num, rfl⟩
              case measure => simp [intOf]; omega
            · go_wp2
              go_roundw
              case rel => exact ⟨t + 1, _, by omega, by go_num, rfl⟩
              case measure => simp [intOf]; omega
        · go_wp2
          go_ret
          exact ⟨rfl, hbel.trans ⟨rfl, rfl, rfl, Nat.le_refl _, fun _ _ => rfl⟩⟩
end Go.Proofs.YthhommjlomphdaaDoor
