import Derived.Test.YthhommjlomphdaaDoorPart08
import Derived.Test.YthhommjlomphdaaDoorPart17
import Derived.Lib.SliceRun
import Derived.Test.YthhommjlomphdaaDoorPart16
/-
  The law on Matrix: its walk.
-/
namespace Go.Proofs.YthhommjlomphdaaDoor
open Go.RowKit Go.Deep Gf

set_option maxRecDepth 100000 in
set_option maxHeartbeats 4000000 in
theorem smatrix_right (D L G : Nat) (hr : rightB D L G = true) (hD : D ≤ 12) (hL : 1 ≤ L) (hL4 : L ≤ 4) (hG : G ≤ 4) (hdiv : D % L = 0) (w : World) :
    Calls Tryd.prog 10 #[.agg #[.int .i64 D, .int .i64 L, .int .i64 G]] w fun e w' => ∃ v T, e = .returned (.tuple #[v, .nilIface]) ∧ Tab w' (w.heap.size + 1) v T ∧ Holds T D (matL D L G) ∧ Below w.heap.size w w' := by
  go_enter Tryd.func10, Tryd.ntmps10
  go_wp2_with fail
  refine (matrix_right D L G hr hD hL hL4 hG hdiv _).mono ?_
  rintro e wa ⟨v, T, rfl, hT, hH, hb⟩
  rw [nblk_alloc] at hT hb
  go_wp2
  go_ret2
  exact ⟨_, T, rfl, hT.weaken (by omega), hH, ((Below.refl _ _).alloc (Nat.le_refl _) _).trans (hb.mono (by omega))⟩
set_option maxRecDepth 100000 in
set_option maxHeartbeats 4000000 in
theorem smatrix_wrong (D L G : Int) (hr : rightB D L G = false) (w : World) :
    Calls Tryd.prog 10 #[.agg #[.int .i64 D, .int .i64 L, .int .i64 G]] w fun e w' => e = .returned (.tuple #[.slice none 0 0, .iface 29 (.int .i64 1)]) ∧ Below w.heap.size w w' := by
  go_enter Tryd.func10, Tryd.ntmps10
  go_wp2_with fail
  refine (matrix_wrong D L G hr _).mono ?_
  rintro e wa ⟨rfl, hb⟩
  rw [nblk_alloc] at hb
  go_wp2
  go_ret2
  exact ⟨rfl, ((Below.refl _ _).alloc (Nat.le_refl _) _).trans (hb.mono (by omega))⟩

theorem holds_alikes {S T : List (Nat × Nat × List Nat)} {D : Nat} {M : List (List Nat)} (h : Holds S D M) (k : Holds T D M) : Alikes S T := by
  have e := h.trans k.symm
  unfold Alikes
  have := congrArg (List.map (fun q : Nat × List Nat => q.2.take q.1)) e
  simpa [List.map_map, Function.comp_def] using this
theorem apart_of {w w' : World} {b1 b2 : Nat} {v v' : Value} {S T : List (Nat × Nat × List Nat)} (h : Tab w b1 v S) (k : Tab w' b2 v' T) (hb : w.heap.size ≤ b2) : Apart S T := by
  intro p hp q hq e
  have h1 := (h.row p hp).2.1.lt
  have h2 := (k.row q hq).1
  omega
theorem right_nat {D L G : Int} (h : rightB D L G = true) : ∃ d l g : Nat, D = (d : Int) ∧ L = (l : Int) ∧ G = (g : Int) ∧ 1 ≤ d ∧ d ≤ 12 ∧ 1 ≤ l ∧ l ≤ 4 ∧ g ≤ 4 ∧ d % l = 0 ∧ d + l + g ≤ 16 := by
  unfold rightB at h
  have h := of_decide_eq_true h
  obtain ⟨h1, h2, h3, h4, h5, h6, h7, h8⟩ := h
  refine ⟨D.toNat, L.toNat, G.toNat, by omega, by omega, by omega, by omega, by omega, by omega, by omega, by omega, ?_, by omega⟩
  have : ((D.toNat % L.toNat : Nat) : Int) = 0 := by
    rw [Int.natCast_emod, Int.toNat_of_nonneg (by omega), Int.toNat_of_nonneg (by omega)]; exact h7
  omega
set_option maxRecDepth 100000 in
set_option maxHeartbeats 4000000 in
theorem matrices_right (D L G : Nat) (hr : rightB D L G = true) (hD : D ≤ 12) (hL : 1 ≤ L) (hL4 : L ≤ 4) (hG : G ≤ 4) (hdiv : D % L = 0) (w : World) :
    Calls Tryd.prog 3 #[.agg #[.int .i64 D, .int .i64 L, .int .i64 G]] w fun e w' => e = .returned (.bool true) ∧ Below w.heap.size w w' := by
  go_enter Tryd.func3, Tryd.ntmps3
  go_wp2_with fail
  refine (smatrix_right D L G hr hD hL hL4 hG hdiv _).mono ?_
  rintro e wa ⟨v, T, rfl, hT, hH, hba⟩
  rw [nblk_alloc] at hT hba
  have hsa := hba.size
  rw [nblk_alloc] at hsa
  go_wp2_with fail
  refine (tell_nil _).mono ?_
  rintro e wb ⟨rfl, hbb⟩
  have hsb := hbb.size
  have hbab := hba.trans (hbb.mono hsa)
  obtain ⟨p0, p1, p2⟩ := box_cells hbab
  have hT1 := hT.below hbb
  clear hT
  go_wp2_with fail
  refine (theirs_any D L G _).mono ?_
  rintro e wc ⟨rfl, hbc⟩
  have hsc := hbc.size
  have hT2 := hT1.below hbc
  clear hT1 p0 p1 p2
  go_wp2_with fail
  refine (rmatrix_right D L G hr hD hL hL4 hG hdiv _).mono ?_
  rintro e wd ⟨x, T', rfl, hTx, hHx, hbd⟩
  rw [nblk_alloc] at hTx hbd
  have hsd := hbd.size
  rw [nblk_alloc] at hsd
  have hT3 := (hT2.alloc (.cells #[.int .i64 D, .int .i64 L, .int .i64 G] 31)).below (by rw [nblk_alloc]; exact hbd)
  have hal := holds_alikes hH hHx
  have hap := apart_of hT2 hTx (by omega)
  have hbW : Below w.heap.size w wd := ((((Below.refl _ _).alloc (Nat.le_refl _) _).trans (hbab.mono (by omega))).trans (hbc.mono (by omega))).trans (((Below.refl _ _).alloc (by omega) _).trans (hbd.mono (by omega)))
  have HALL := hide (And.intro hal hap)
  clear hT2 hba hbb hbc hbd hbab hH hHx hal hap
  go_wp2_with fail
  refine (sameAll_eq v x T T' w.heap.size _ _ wd hT3 hTx (by omega) (by omega) HALL.out.1 HALL.out.2).mono ?_
  rintro e we ⟨rfl, hbe⟩
  go_wp2_with (go_at_call 15; refine (num_any _ _).mono ?_; rintro e w' ⟨rfl, rfl⟩)
  go_ret
  exact ⟨rfl, hbW.trans hbe⟩
set_option maxRecDepth 100000 in
set_option maxHeartbeats 4000000 in
theorem matrices_wrong (D L G : Int) (hr : rightB D L G = false) (w : World) (hg : globalLaid w) :
    Calls Tryd.prog 3 #[.agg #[.int .i64 D, .int .i64 L, .int .i64 G]] w fun e w' => e = .returned (.bool true) ∧ Below w.heap.size w w' := by
  have hlt : 0 < w.heap.size := block_lt_of_cell hg
  have heq := fun wx => Lib.run_eql_slice_nil (P := Tryd.prog) wx 24 44 none 0 0 0 0 Tryd.underlying24
  go_enter Tryd.func3, Tryd.ntmps3
  go_wp2_with fail
  refine (smatrix_wrong D L G hr _).mono ?_
  rintro e wa ⟨rfl, hba⟩
  rw [nblk_alloc] at hba
  have hsa := hba.size
  rw [nblk_alloc] at hsa
  have hga : globalLaid wa := by
    unfold globalLaid at *
    rw [hba.cell (by simp), World.cell?_alloc_lt _ _ _ hlt]; exact hg
  go_wp2_with fail
  refine (tell_errno 1 _ hga).mono ?_
  rintro e wb ⟨rfl, hbb⟩
  have hsb := hbb.size
  have hbab := hba.trans (hbb.mono hsa)
  obtain ⟨p0, p1, p2⟩ := box_cells hbab
  go_wp2_with fail
  refine (theirs_any D L G _).mono ?_
  rintro e wc ⟨rfl, hbc⟩
  have hsc := hbc.size
  clear p0 p1 p2
  go_wp2_with fail
  refine (rmatrix_wrong D L G hr _).mono ?_
  rintro e wd ⟨rfl, hbd⟩
  rw [nblk_alloc] at hbd
  have hsd := hbd.size
  rw [nblk_alloc] at hsd
  have hbW : Below w.heap.size w wd := ((((Below.refl _ _).alloc (Nat.le_refl _) _).trans (hbab.mono (by omega))).trans (hbc.mono (by omega))).trans (((Below.refl _ _).alloc (by omega) _).trans (hbd.mono (by omega)))
  clear hba hbb hbc hbd hbab hga
  go_wp2_with fail
  refine (sameAll_eq _ _ [] [] w.heap.size w.heap.size w.heap.size wd (Tab.nil _ _) (Tab.nil _ _) (by omega) (by omega) rfl (fun p hp => by simp at hp)).mono ?_
  rintro e we ⟨rfl, hbe⟩
  go_wp2_with (go_at_call 15; refine (num_any _ _).mono ?_; rintro e w' ⟨rfl, rfl⟩)
  go_ret
  exact ⟨rfl, hbW.trans hbe⟩
theorem matrices_any (D L G : Int) (w : World) (hg : globalLaid w) :
    Calls Tryd.prog 3 #[.agg #[.int .i64 D, .int .i64 L, .int .i64 G]] w fun e w' => e = .returned (.bool true) ∧ Below w.heap.size w w' := by
  cases hr : rightB D L G with
  | false => exact matrices_wrong D L G hr w hg
  | true =>
    obtain ⟨d, l, g, rfl, rfl, rfl, h1, h2, h3, h4, h5, h6, h7⟩ := right_nat hr
    exact matrices_right d l g hr h2 h3 h4 h5 h6 w
end Go.Proofs.YthhommjlomphdaaDoor
/-
  The program's Encode.
-/
namespace Go.Proofs.YthhommjlomphdaaDoor
open Go.RowKit Go.Deep Gf

/-- the shards of data -/
def encL (M : List (List Nat)) (D : List (List Nat)) (n : Nat) : List (List Nat) := M.map fun row => combTo row D n D.length
theorem wpList_mkRows (w : World) {ops : Array Oper} {rest : List Oper} {o : Oper} {a : Act} {Q : Exit → Act → World → Prop}
    (hg : o.guard = none) (l c : Operand) (hop : o.op = Op.makeSlice 24 l c) (C : Int) (n : Nat) (hl : a.eval l = .int .i64 C) (hc : a.eval c = .int .i64 C) (hC : C = (n : Int)) (hn : n ≤ 1000000)
    (hK : ∀ w', w'.rowIs w.heap.size 44 n (fun _ => .slice none 0 0) → Below w.heap.size w w' → w'.heap.size = w.heap.size + 1 → wpList Tryd.prog ops Q rest (a.put o.dst (.slice (some ⟨w.heap.size, 0, none⟩) n n)) w') :
    wpList Tryd.prog ops Q (o :: rest) a w := by
  refine wpList_plain hg fun K hK' => ?_
  have hrun := run_make_row' (P := Tryd.prog) 24 44 (.slice none 0 0) 24 Tryd.underlying24 Tryd.infoBytes rfl .i64 .i64 n (by omega) (by omega) w
  subst hC
  unfold Oper.wp
  simp [execOp, hop, hl, hc, hrun, Result.andThen]
  exact hK' _ _ (hK _ (World.rowIs_made w _ n _) ((Below.refl _ _).alloc (Nat.le_refl _) _) (nblk_alloc _ _))
/-- the table of shards, when so many are made -/
def shv (T : List (Nat × Nat × List Nat)) (i : Nat) : Value := if i < T.length then hdr (T.getD i (0, 0, [])) else .slice none 0 0
structure Part (w : World) (base g N : Nat) (T : List (Nat × Nat × List Nat)) : Prop where
  tab : w.rowIs g 44 N (shv T)
  row : ∀ p ∈ T, base ≤ p.1 ∧ Brow w p.1 p.2.2 ∧ p.2.1 ≤ p.2.2.length ∧ (p.2.1 ≤ 140737488355328 ∧ p.2.2.length ≤ 9223372036854775807) ∧ ∀ x ∈ p.2.2, x < 256
  nodup : (T.map (fun p => p.1)).Nodup
theorem Part.below {w w' : World} {base g N : Nat} {T : List (Nat × Nat × List Nat)} (h : Part w base g N T) (hb : Below w.heap.size w w') : Part w' base g N T :=
  ⟨h.tab.of_block (hb.block g h.tab.lt), fun p hp => by obtain ⟨a, b, c⟩ := h.row p hp; exact ⟨a, b.below hb, c⟩, h.nodup⟩
theorem Part.push {w : World} {base g N b n : Nat} {l : List Nat} {T : List (Nat × Nat × List Nat)} (h : Part w base g N T) (hb : base ≤ b) (hB : Brow w b l) (hn : n ≤ l.length) (hl : l.length ≤ 140737488355328) (hx : ∀ x ∈ l, x < 256) (hne : ∀ p ∈ T, p.1 ≠ b) :
    Part (w.setCell ⟨g, T.length, none⟩ (.slice (some ⟨b, 0, none⟩) n l.length)) base g N (T ++ [(b, n, l)]) := by
  have hgb : ∀ c m, Brow w c m → c ≠ g := by
    intro c m hc e
    obtain ⟨x, hx, _⟩ := hc
    obtain ⟨y, hy, _⟩ := h.tab
    rw [e, hy] at hx
    simp at hx
  refine ⟨?_, fun p hp => ?_, ?_⟩
  · refine (h.tab.set T.length (.slice (some ⟨b, 0, none⟩) n l.length)).congr fun i hi => ?_
    unfold shv
    by_cases e : i = T.length
    · subst e; simp [hdr]
    · rw [if_neg e]
      by_cases e2 : i < T.length
      · rw [if_pos e2, if_pos (by simp; omega)]
        simp [List.getElem?_append_left e2]
      · rw [if_neg e2, if_neg (by simp; omega)]
  · rcases List.mem_append.1 hp with hp | hp
    · obtain ⟨a1, a2, a3⟩ := h.row p hp
      exact ⟨a1, a2.other (hgb _ _ a2) _, a3⟩
    · simp at hp; subst hp
      exact ⟨hb, hB.other (hgb _ _ hB) _, hn, ⟨by show n ≤ 140737488355328; omega, by show l.length ≤ 9223372036854775807; omega⟩, hx⟩
  · rw [List.map_append, List.nodup_append]
    refine ⟨h.nodup, by simp, ?_⟩
    intro a ha c hc
    obtain ⟨q, hq, rfl⟩ := List.mem_map.1 ha
    simp at hc
    subst hc
    exact hne q hq
theorem Part.done {w : World} {base g N : Nat} {T : List (Nat × Nat × List Nat)} (h : Part w base g N T) (hN : N = T.length) (hg : base ≤ g) (hm : N ≤ maxLen) : Tab w base (.slice (some ⟨g, 0, none⟩) N N) T := by
  subst hN
  refine ⟨⟨by simp, .inr ?_⟩, h.row, h.nodup⟩
  obtain ⟨c, hc, hs, hv⟩ := h.tab
  refine ⟨g, T.length, c, rfl, hg, hc, Nat.le_refl _, hm, by omega, ?_⟩
  apply List.ext_getElem
  · simp; omega
  · intro i h1 h2
    simp at h1 h2
    have := hv i h2
    rw [Array.getElem?_eq_getElem (by omega)] at this
    simp at this
    simp [this, shv, h2]
theorem Part.lt {w : World} {base g N : Nat} {T : List (Nat × Nat × List Nat)} (h : Part w base g N T) : g < w.heap.size := h.tab.lt
def EcR (w : World) (B g N n : Nat) (M D : List (List Nat)) (i : Value) (wr : World) : Prop :=
  ∃ k T, k ≤ N ∧ i = .int .i64 (k : Nat) ∧ Part wr B g N T ∧ Holds T n (encL (M.take k) D n) ∧ Below B w wr ∧ B ≤ wr.heap.size
/-- the answer of Encode, where all is right -/
def EnPost (w : World) (n : Nat) (M D : List (List Nat)) (x : Value) (e : Ending) (w' : World) : Prop := ∃ v T, e = .returned (.tuple #[v, x]) ∧ Tab w' w.heap.size v T ∧ Holds T n (encL M D n) ∧ Below w.heap.size w w'

theorem Holds.at {T : List (Nat × Nat × List Nat)} {D : Nat} {M : List (List Nat)} (h : Holds T D M) {i : Nat} (h1 : i < T.length) (h2 : i < M.length) : T[i].2 = (D, M[i]) := by
  have := List.getElem_of_eq h (i := i) (by simpa using h1)
  simpa using this
theorem matL_len (D L G : Nat) : (matL D L G).length = D + L + G := by simp [matL]; omega
theorem matL_row (D L G : Nat) {i : Nat} (hi : i < (matL D L G).length) : ((matL D L G)[i]).length = D := by
  have hm : (matL D L G)[i] ∈ matL D L G := List.getElem_mem hi
  unfold matL at hm
  rcases List.mem_append.1 hm with hm | hm
  · rcases List.mem_append.1 hm with hm | hm
    · obtain ⟨j, _, e⟩ := List.mem_map.1 hm
      unfold matL
      rw [← e]; simp [dataL]
    · obtain ⟨j, _, e⟩ := List.mem_map.1 hm
      unfold matL
      rw [← e]; simp [localL]
  · obtain ⟨j, _, e⟩ := List.mem_map.1 hm
    unfold matL
    rw [← e]; simp [globalL]
theorem encL_snoc (M D : List (List Nat)) (n k : Nat) (hk : k < M.length) : encL (M.take (k + 1)) D n = encL (M.take k) D n ++ [combTo M[k] D n D.length] := by
  unfold encL
  rw [List.take_succ_eq_append_getElem hk, List.map_append]; rfl
set_option maxRecDepth 100000 in
set_option maxHeartbeats 4000000 in
theorem encode_fit (D L G : Nat) (hr : rightB D L G = true) (hD1 : 1 ≤ D) (hD : D ≤ 12) (hL : 1 ≤ L) (hL4 : L ≤ 4) (hG : G ≤ 4) (hdiv : D % L = 0) (vd : Value) (Dt : List (List Nat)) (w : World) (hd : Rd w vd Dt) (hlen : Dt.length = D) (hfit : Fit Dt) :
    Calls Tryd.prog 42 #[.agg #[.int .i64 D, .int .i64 L, .int .i64 G], vd] w fun e w' => EnPost w (Dt.getD 0 []).length (matL D L G) Dt .nilIface e w' := by
  have hnn : (((Dt.length : Nat) : Int) != (D : Int)) = false := by rw [hlen]; simp
  have hpos : 0 < Dt.length := by omega
  obtain ⟨ao, c, rfl, hl, hcc⟩ := id hd
  have hn4 : (Dt.getD 0 []).length ≤ 4096 := by
    have := (hfit 0 hpos)
    have h2 := this.2
    rw [this.1] at h2
    exact h2
  have hall : ∀ i (hi : i < Dt.length), (Dt[i]).length = (Dt.getD 0 []).length := fun i hi => (hfit i hi).1
  generalize hn : (Dt.getD 0 []).length = n at *
  have HALL := hide hall
  have HF := hide hfit
  have HLEN := hide hlen
  clear hcc hn hall hfit hlen
  go_enter Tryd.func42, Tryd.ntmps42
  go_wp2_with fail
  refine (matrix_right D L G hr hD hL hL4 hG hdiv _).mono ?_
  rintro e wa ⟨v, T, rfl, hT, hH, hba⟩
  rw [nblk_alloc] at hT hba
  have hsa := hba.size
  rw [nblk_alloc] at hsa
  obtain ⟨p0, p1, p2⟩ := box_cells hba
  have hbwa : Below w.heap.size w wa := ((Below.refl _ _).alloc (Nat.le_refl _) _).trans (hba.mono (by omega))
  have hda := hd.mono hbwa
  go_wp2_with fail
  refine (even_any _ Dt _ hda hpos).mono ?_
  rintro e wb ⟨r, rfl, hrt, rfl⟩
  obtain rfl : r = true := hrt.2 HF.out
  obtain ⟨mo, mcap, rfl, hmo⟩ := hT.slice
  have hTl := hH.length
  rw [matL_len] at hTl
  obtain ⟨mg, rfl⟩ := hmo (by intro e; rw [e] at hTl; simp at hTl; omega)
  have hTl2 : T.length ≤ 20 := by omega
  have HTL := hide hTl
  clear hTl hmo hrt
  go_wp2_with (at_make; refine wpList_mkRows _ rfl (.tmp 31) (.tmp 31) rfl _ T.length rfl rfl rfl (by omega) ?_; intro wc hRow hbc hz; clear hz)
  have hP0 : Part wc wb.heap.size wb.heap.size T.length [] := ⟨hRow.congr (fun i _ => by simp [shv]), fun p hp => by simp at hp, by simp⟩
  have hsc := hbc.size
  generalize hM : matL D L G = M at *
  have HM : Hid (∀ i (hi : i < M.length), (M[i]).length = D) := by intro i hi; subst hM; exact matL_row D L G hi
  have HH := hide hH
  have HMM := hide hM
  clear hRow hM hH p0 p1 p2
  go_loopw [35] (fun i wr => EcR wb wb.heap.size wb.heap.size T.length n M Dt i wr) (fun i _ => T.length - (intOf i).toNat)
  case atStart => exact ⟨0, [], Nat.zero_le _, rfl, hP0, rfl, hbc, hsc⟩
  case round =>
    clear hP0 hbc hsc
    rename World => wo
    obtain ⟨k, S, hk, rfl, hP, hHS, hbo, hso⟩ := hrel
    have hlenM := HH.out.length
    have hSl := hHS.length
    unfold encL at hSl
    rw [List.length_map, List.length_take] at hSl
    by_cases hlt : k < T.length
    · have hltM : k < M.length := by omega
      have hTo := hT.below hbo
      have hdo := hda.mono hbo
      have hca := hTo.cell_at hlt
      have hrow := hTo.row_at hlt
      have hat := HH.out.at hlt hltM
      have hMk := HM.out k hltM
      obtain ⟨⟨rb, rn, rl⟩, hTt⟩ : ∃ p, p = T[k] := ⟨_, rfl⟩
      rw [← hTt] at hca hrow hat
      simp only [hdr, Prod.mk.injEq] at hca hrow hat
      obtain ⟨rfl, rfl⟩ := hat
      rw [List.take_of_length_le (by omega)] at hrow
      rw [hMk] at hca hrow
      have hSk : S.length = k := by omega
      have hcS := hP.tab.cell (i := k) hlt
      have hfS := hP.tab.frozen k
      have hsnoc := encL_snoc M Dt n k hltM
      have HSN := hide hsnoc
      have HHS := hide hHS
      have HSK := hide hSk
      have HMK := hide hMk
      clear hsnoc hHS hSk hMk hlenM hSl hTt
      go_wp2_with fail
      refine (combine_any _ _ M[k] Dt n wo (by rw [HMK.out] at *; exact hrow) hdo hn4 HALL.out (by rw [HMK.out, HLEN.out]) hpos).mono ?_
      rintro e w2 ⟨b2, rfl, hb2, hB2, hbel2⟩
      have hP2 := hP.below hbel2
      have hcS2 := hP2.tab.cell (i := k) hlt
      have hfS2 := hP2.tab.frozen k
      have hs2 := hbel2.size
      have hpl := hP.lt
      have hP3 := hP2.push (n := n) (by omega) hB2 (by rw [combTo_len]; omega) (by rw [combTo_len]; omega) (combTo_lt _ _ (fun x hx => hrow.lt x hx) _ _) (fun p hp => by have := (hP.row p hp).2.1.lt; omega)
      rw [combTo_len, HSK.out] at hP3
      have hb3 := (hbo.trans (hbel2.mono hso)).setCell (p := ⟨wb.heap.size, k, none⟩) (Nat.le_refl _) (.slice (some ⟨b2, 0, none⟩) n n)
      have hH3 := HHS.out.push b2 (combTo M[k] Dt n Dt.length)
      rw [← HSN.out] at hH3
      have HH3 := hide hH3
      generalize shv S k = ov at *
      clear hP hP2 hB2 hbel2 hbo hrow hca hTo hdo hH3 hcS hfS HSN HHS HMK
      go_wp2
      go_roundw
      case rel => exact ⟨k + 1, _, by omega, by go_num, hP3, HH3.out, hb3, by rw [nblk_setCell]; omega⟩
      case measure => simp [intOf]; omega
    · have hkT : k = T.length := by omega
      have hkM : k = M.length := by omega
      have hHf : Holds S n (encL M Dt n) := by rw [hkM, List.take_length] at hHS; exact hHS
      have hTf := hP.done (by omega) (Nat.le_refl _) (by unfold maxLen; omega)
      have hbf := hbwa.trans (hbo.mono hbwa.size)
      have hTg := hTf.weaken (base' := w.heap.size) hbwa.size
      clear hHS hP hbo hTf hkT hkM hlenM hSl
      go_wp2
      go_ret2
      exact ⟨_, S, rfl, hTg, by rw [HMM.out]; exact hHf, hbf⟩
set_option maxRecDepth 100000 in
set_option maxHeartbeats 4000000 in
theorem encode_wrong (D L G : Int) (hr : rightB D L G = false) (vd : Value) (w : World) :
    Calls Tryd.prog 42 #[.agg #[.int .i64 D, .int .i64 L, .int .i64 G], vd] w fun e w' => e = .returned (.tuple #[.slice none 0 0, .iface 29 (.int .i64 1)]) ∧ Below w.heap.size w w' := by
  go_enter Tryd.func42, Tryd.ntmps42
  go_wp2_with fail
  refine (matrix_wrong D L G hr _).mono ?_
  rintro e wa ⟨rfl, hba⟩
  rw [nblk_alloc] at hba
  go_wp2
  go_ret2
  exact ⟨rfl, ((Below.refl _ _).alloc (Nat.le_refl _) _).trans (hba.mono (by omega))⟩
set_option maxRecDepth 100000 in
set_option maxHeartbeats 4000000 in
theorem encode_unfit (D L G : Nat) (hr : rightB D L G = true) (hD1 : 1 ≤ D) (hD : D ≤ 12) (hL : 1 ≤ L) (hL4 : L ≤ 4) (hG : G ≤ 4) (hdiv : D % L = 0) (vd : Value) (Dt : List (List Nat)) (w : World) (hd : Rd w vd Dt) (hun : ¬ (Dt.length = D ∧ Fit Dt)) :
    Calls Tryd.prog 42 #[.agg #[.int .i64 D, .int .i64 L, .int .i64 G], vd] w fun e w' => e = .returned (.tuple #[.slice none 0 0, .iface 29 (.int .i64 2)]) ∧ Below w.heap.size w w' := by
  obtain ⟨ao, c, rfl, hl, hcc⟩ := id hd
  clear hcc
  by_cases hlen : Dt.length = D
  · have hnn : (((Dt.length : Nat) : Int) != (D : Int)) = false := by rw [hlen]; simp
    have hpos : 0 < Dt.length := by omega
    have HF : Hid (¬ Fit Dt) := fun h => hun ⟨hlen, h⟩
    clear hun hlen
    go_enter Tryd.func42, Tryd.ntmps42
    go_wp2_with fail
    refine (matrix_right D L G hr hD hL hL4 hG hdiv _).mono ?_
    rintro e wa ⟨v, T, rfl, hT, hH, hba⟩
    rw [nblk_alloc] at hT hba
    obtain ⟨p0, p1, p2⟩ := box_cells hba
    have hbwa : Below w.heap.size w wa := ((Below.refl _ _).alloc (Nat.le_refl _) _).trans (hba.mono (by omega))
    have hda := hd.mono hbwa
    obtain ⟨mo, mcap, rfl, hmo⟩ := hT.slice
    clear hT hH hmo
    go_wp2_with fail
    refine (even_any _ Dt _ hda hpos).mono ?_
    rintro e wb ⟨r, rfl, hrt, rfl⟩
    obtain rfl : r = false := by cases r with | false => rfl | true => exact absurd (hrt.1 rfl) HF.out
    clear hrt
    go_wp2
    go_ret2
    exact ⟨rfl, hbwa⟩
  · have hnn : (((Dt.length : Nat) : Int) != (D : Int)) = true := by rw [bne_iff_ne]; omega
    clear hun hlen
    go_enter Tryd.func42, Tryd.ntmps42
    go_wp2_with fail
    refine (matrix_right D L G hr hD hL hL4 hG hdiv _).mono ?_
    rintro e wa ⟨v, T, rfl, hT, hH, hba⟩
    rw [nblk_alloc] at hT hba
    obtain ⟨p0, p1, p2⟩ := box_cells hba
    have hbwa : Below w.heap.size w wa := ((Below.refl _ _).alloc (Nat.le_refl _) _).trans (hba.mono (by omega))
    obtain ⟨mo, mcap, rfl, hmo⟩ := hT.slice
    clear hT hH hmo
    go_wp2
    go_ret2
    exact ⟨rfl, hbwa⟩
set_option maxRecDepth 100000 in
set_option maxHeartbeats 4000000 in
theorem sencode_fit (D L G : Nat) (hr : rightB D L G = true) (hD1 : 1 ≤ D) (hD : D ≤ 12) (hL : 1 ≤ L) (hL4 : L ≤ 4) (hG : G ≤ 4) (hdiv : D % L = 0) (vd : Value) (Dt : List (List Nat)) (w : World) (hd : Rd w vd Dt) (hlen : Dt.length = D) (hfit : Fit Dt) :
    Calls Tryd.prog 18 #[.agg #[.int .i64 D, .int .i64 L, .int .i64 G], vd] w fun e w' => EnPost w (Dt.getD 0 []).length (matL D L G) Dt .nilIface e w' := by
  go_enter Tryd.func18, Tryd.ntmps18
  go_wp2_with fail
  refine (encode_fit D L G hr hD1 hD hL hL4 hG hdiv vd Dt _ (hd.mono ((Below.refl _ _).alloc (Nat.le_refl _) _)) hlen hfit).mono ?_
  rintro e wa ⟨v, T, rfl, hT, hH, hba⟩
  rw [nblk_alloc] at hT hba
  clear hlen hfit
  go_wp2
  go_ret2
  exact ⟨_, T, rfl, hT.weaken (by omega), hH, ((Below.refl _ _).alloc (Nat.le_refl _) _).trans (hba.mono (by omega))⟩
/-- the answers of Encode that are errors -/
def errOf (D L G : Int) (Dt : List (List Nat)) (x : Int) : Prop := (rightB D L G = false ∧ x = 1) ∨ (rightB D L G = true ∧ ¬ (((Dt.length : Nat) : Int) = D ∧ Fit Dt) ∧ x = 2)
set_option maxRecDepth 100000 in
set_option maxHeartbeats 4000000 in
theorem sencode_err (D L G x : Int) (vd : Value) (Dt : List (List Nat)) (w : World) (hd : Rd w vd Dt) (he : errOf D L G Dt x) :
    Calls Tryd.prog 18 #[.agg #[.int .i64 D, .int .i64 L, .int .i64 G], vd] w fun e w' => e = .returned (.tuple #[.slice none 0 0, .iface 29 (.int .i64 x)]) ∧ Below w.heap.size w w' := by
  have key : ∀ w1 : World, Rd w1 vd Dt → Calls Tryd.prog 42 #[.agg #[.int .i64 D, .int .i64 L, .int .i64 G], vd] w1 fun e w' => e = .returned (.tuple #[.slice none 0 0, .iface 29 (.int .i64 x)]) ∧ Below w1.heap.size w1 w' := by
    intro w1 h1
    rcases he with ⟨h, rfl⟩ | ⟨h, hn, rfl⟩
    · exact encode_wrong D L G h vd w1
    · obtain ⟨d, l, g, rfl, rfl, rfl, q1, q2, q3, q4, q5, q6, q7⟩ := right_nat h
      exact encode_unfit d l g h q1 q2 q3 q4 q5 q6 vd Dt w1 h1 (fun ⟨a, b⟩ => hn ⟨by omega, b⟩)
  have K := hide key
  clear key he
  go_enter Tryd.func18, Tryd.ntmps18
  go_wp2_with fail
  refine (K.out _ (hd.mono ((Below.refl _ _).alloc (Nat.le_refl _) _))).mono ?_
  rintro e wa ⟨rfl, hba⟩
  rw [nblk_alloc] at hba
  go_wp2
  go_ret2
  exact ⟨rfl, ((Below.refl _ _).alloc (Nat.le_refl _) _).trans (hba.mono (by omega))⟩
end Go.Proofs.YthhommjlomphdaaDoor
