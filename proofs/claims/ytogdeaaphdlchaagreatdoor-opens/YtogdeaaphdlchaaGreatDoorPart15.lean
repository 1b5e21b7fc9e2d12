import Derived.Test.YtogdeaaphdlchaaGreatDoorPart11
import Derived.ChangeSame
import Derived.ChangeVars
import Derived.JoinedOf
import Derived.RowKit
import Derived.LaidLaws
import Derived.LaidHandle
import Derived.Stop.Joined
import Derived.Lib.SmallJoins
import Derived.Test.YtogdeaaphdlchaaGreatDoorPart14
import Derived.Lib.SliceRun
import Derived.Test.YtogdeaaphdlchaaGreatDoorPart07
import Derived.Test.YtogdeaaphdlchaaGreatDoorPart03
import Derived.Laws.BitsAllLaws
import Derived.Test.YtogdeaaphdlchaaGreatDoorPart06
/-
  The package-level variable that errors.As reads: what the row's condition gives a walk, and a world that meets it (after the guide's worked example of a tied card).
-/
namespace Go.Proofs.YtogdeaaphdlchaaGreatDoor
open Go.ChangeShapes Go.WideShapes Go.RowKit

theorem Tryz.own : ownKnob Tryz.prog.godebug = none := by kernel_rfl
theorem Tryz.et : Tryz.prog.globalNamed "errors.errorType" = some 0 := by kernel_rfl
theorem Tryz.rt : (Tryz.prog.cutTypes.find? (fun x => x.1 == "internal/reflectlite.rtype")).map (fun x => x.2) = some 101 := by kernel_rfl
theorem Tryz.oneRow : ((List.range 312).filter fun t => Tryz.prog.rowNamed t [101, 114, 114, 111, 114]) = [29] := by kernel_rfl
theorem Tryz.size : Tryz.prog.types.size = 312 := by kernel_rfl
def globalLaid (w : World) : Prop := w.cell? ⟨0, 0, none⟩ = some (.iface 101 (.agg #[.pointer (some ⟨3, 29, none⟩)]))
theorem handle_of_laid {W : World} (h : laidMetH Tryz.prog [("errors.errorType", Rows.laid_errors_errorType)] W) : globalLaid W := by
  have h' : laidMet Tryz.prog [] W ∧ handlesMet Tryz.prog [("errors.errorType", Rows.laid_errors_errorType)] W := h
  obtain ⟨name, u, ty, e1, e2, e3, e4, e5⟩ := h'.2 _ (List.mem_singleton.2 rfl)
  have en : name = [101, 114, 114, 111, 114] := (Option.some.inj e1).symm
  subst en
  obtain rfl := Option.some.inj (Tryz.rt.symm.trans e2)
  have hm : ty ∈ (List.range 312).filter fun t => Tryz.prog.rowNamed t [101, 114, 114, 111, 114] := List.mem_filter.2 ⟨List.mem_range.2 (by rw [← Tryz.size]; exact e3), e4⟩
  rw [Tryz.oneRow] at hm
  obtain rfl := List.mem_singleton.1 hm
  have hh : typeHandle Tryz.prog 29 = .pointer (some ⟨3, 29, none⟩) := by kernel_rfl
  rw [hh] at e5
  unfold globalLaid
  simpa using World.var?_cell Tryz.et e5 0
theorem laidWorld_met (os : Os) (args : Array Value) : laidMetH Tryz.prog [("errors.errorType", Rows.laid_errors_errorType)] (({ World.holding Tryz.prog os ⟨#[], #[], []⟩ with heap := (World.holding Tryz.prog os ⟨#[], #[], []⟩).heap.modify 0 fun | .cells _ t frozen => .cells #[.iface 101 (.agg #[.pointer (some ⟨3, 29, none⟩)])] t frozen | o => o } : World).forCall (fun _ _ => 0) ⟨#[], args, []⟩).memory :=
  laidMetH_of_parts (laidMet_nil _ _) (by kernel_rfl)
theorem Tryz.cellsParams : Tryz.prog.cellsOf 23 = 3 := by kernel_rfl
end Go.Proofs.YtogdeaaphdlchaaGreatDoor
/-
  The law on Matrix: its walk.
-/
namespace Go.Proofs.YtogdeaaphdlchaaGreatDoor
open Go.RowKit Go.Deep Gf

theorem holds_alikes {S T : List (Nat × Nat × List Nat)} {D : Nat} {M : List (List Nat)} (h : Holds S D M) (k : Holds T D M) : Alikes S T := by
  have e := h.trans k.symm
  unfold Alikes
  have := congrArg (List.map (fun q : Nat × List Nat => q.2.take q.1)) e
  simpa [List.map_map, Function.comp_def] using this
theorem apart_of {w w' : World} {b1 b2 : Nat} {v v' : Value} {S T : List (Nat × Nat × List Nat)} (h : Tab w b1 v S) (k : Tab w' b2 v' T) (hb : w.heap.size ≤ b2) : Apart S T := by
  intro p hp q hq e
  have h1 := (h.row p hp).2.1.lt
  have h2 := (k.row q hq).1
  omega
theorem right_nat {D L G : Int} (h : rightB D L G = true) : ∃ d l g : Nat, D = (d : Int) ∧ L = (l : Int) ∧ G = (g : Int) ∧ 1 ≤ d ∧ d ≤ 12 ∧ 1 ≤ l ∧ l ≤ 4 ∧ g ≤ 4 ∧ d % l = 0 ∧ d + l + g ≤ 16 := by
  unfold rightB at h
  have h := of_decide_eq_true h
  obtain ⟨h1, h2, h3, h4, h5, h6, h7, h8⟩ := h
  refine ⟨D.toNat, L.toNat, G.toNat, by omega, by omega, by omega, by omega, by omega, by omega, by omega, by omega, ?_, by omega⟩
  have : ((D.toNat % L.toNat : Nat) : Int) = 0 := by
    rw [Int.natCast_emod, Int.toNat_of_nonneg (by omega), Int.toNat_of_nonneg (by omega)]; exact h7
  omega
end Go.Proofs.YtogdeaaphdlchaaGreatDoor
/-
  The program's Encode.
-/
namespace Go.Proofs.YtogdeaaphdlchaaGreatDoor
open Go.RowKit Go.Deep Gf

/-- the shards of data -/
def encL (M : List (List Nat)) (D : List (List Nat)) (n : Nat) : List (List Nat) := M.map fun row => combTo row D n D.length
theorem wpList_mkRows (w : World) {ops : Array Oper} {rest : List Oper} {o : Oper} {a : Act} {Q : Exit → Act → World → Prop}
    (hg : o.guard = none) (l c : Operand) (hop : o.op = Op.makeSlice 132 l c) (C : Int) (n : Nat) (hl : a.eval l = .int .i64 C) (hc : a.eval c = .int .i64 C) (hC : C = (n : Int)) (hn : n ≤ 1000000)
    (hK : ∀ w', w'.rowIs w.heap.size 166 n (fun _ => .slice none 0 0) → Below w.heap.size w w' → w'.heap.size = w.heap.size + 1 → wpList Tryz.prog ops Q rest (a.put o.dst (.slice (some ⟨w.heap.size, 0, none⟩) n n)) w') :
    wpList Tryz.prog ops Q (o :: rest) a w := by
  refine wpList_plain hg fun K hK' => ?_
  have hrun := run_make_row' (P := Tryz.prog) 132 166 (.slice none 0 0) 24 Tryz.underlying132 Tryz.infoBytes rfl .i64 .i64 n (by omega) (by omega) w
  subst hC
  unfold Oper.wp
  simp [execOp, hop, hl, hc, hrun, Result.andThen]
  exact hK' _ _ (hK _ (World.rowIs_made w _ n _) ((Below.refl _ _).alloc (Nat.le_refl _) _) (nblk_alloc _ _))
/-- the table of shards, when so many are made -/
def shv (T : List (Nat × Nat × List Nat)) (i : Nat) : Value := if i < T.length then hdr (T.getD i (0, 0, [])) else .slice none 0 0
structure Part (w : World) (base g N : Nat) (T : List (Nat × Nat × List Nat)) : Prop where
  tab : w.rowIs g 166 N (shv T)
  row : ∀ p ∈ T, base ≤ p.1 ∧ Brow w p.1 p.2.2 ∧ p.2.1 ≤ p.2.2.length ∧ (p.2.1 ≤ 140737488355328 ∧ p.2.2.length ≤ 9223372036854775807) ∧ ∀ x ∈ p.2.2, x < 256
  nodup : (T.map (fun p => p.1)).Nodup
theorem Part.below {w w' : World} {base g N : Nat} {T : List (Nat × Nat × List Nat)} (h : Part w base g N T) (hb : Below w.heap.size w w') : Part w' base g N T :=
  ⟨h.tab.of_block (hb.block g h.tab.lt), fun p hp => by obtain ⟨a, b, c⟩ := h.row p hp; exact ⟨a, b.below hb, c⟩, h.nodup⟩
theorem Part.push {w : World} {base g N b n : Nat} {l : List Nat} {T : List (Nat × Nat × List Nat)} (h : Part w base g N T) (hb : base ≤ b) (hB : Brow w b l) (hn : n ≤ l.length) (hl : l.length ≤ 140737488355328) (hx : ∀ x ∈ l, x < 256) (hne : ∀ p ∈ T, p.1 ≠ b) :
    Part (w.setCell ⟨g, T.length, none⟩ (.slice (some ⟨b, 0, none⟩) n l.length)) base g N (T ++ [(b, n, l)]) := by
  have hgb : ∀ c m, Brow w c m → c ≠ g := by
    intro c m hc e
    obtain ⟨x, hx, _⟩ := hc
    obtain ⟨y, hy, _⟩ := h.tab
    rw [e, hy] at hx
    simp at hx
  refine ⟨?_, fun p hp => ?_, ?_⟩
  · refine (h.tab.set T.length (.slice (some ⟨b, 0, none⟩) n l.length)).congr fun i hi => ?_
    unfold shv
    by_cases e : i = T.length
    · subst e; simp [hdr]
    · rw [if_neg e]
      by_cases e2 : i < T.length
      · rw [if_pos e2, if_pos (by simp; omega)]
        simp [List.getElem?_append_left e2]
      · rw [if_neg e2, if_neg (by simp; omega)]
  · rcases List.mem_append.1 hp with hp | hp
    · obtain ⟨a1, a2, a3⟩ := h.row p hp
      exact ⟨a1, a2.other (hgb _ _ a2) _, a3⟩
    · simp at hp; subst hp
      exact ⟨hb, hB.other (hgb _ _ hB) _, hn, ⟨by show n ≤ 140737488355328; omega, by show l.length ≤ 9223372036854775807; omega⟩, hx⟩
  · rw [List.map_append, List.nodup_append]
    refine ⟨h.nodup, by simp, ?_⟩
    intro a ha c hc
    obtain ⟨q, hq, rfl⟩ := List.mem_map.1 ha
    simp at hc
    subst hc
    exact hne q hq
theorem Part.done {w : World} {base g N : Nat} {T : List (Nat × Nat × List Nat)} (h : Part w base g N T) (hN : N = T.length) (hg : base ≤ g) (hm : N ≤ maxLen) : Tab w base (.slice (some ⟨g, 0, none⟩) N N) T := by
  subst hN
  refine ⟨⟨by simp, .inr ?_⟩, h.row, h.nodup⟩
  obtain ⟨c, hc, hs, hv⟩ := h.tab
  refine ⟨g, T.length, c, rfl, hg, hc, Nat.le_refl _, hm, by omega, ?_⟩
  apply List.ext_getElem
  · simp; omega
  · intro i h1 h2
    simp at h1 h2
    have := hv i h2
    rw [Array.getElem?_eq_getElem (by omega)] at this
    simp at this
    simp [this, shv, h2]
theorem Part.lt {w : World} {base g N : Nat} {T : List (Nat × Nat × List Nat)} (h : Part w base g N T) : g < w.heap.size := h.tab.lt
def EcR (w : World) (B g N n : Nat) (M D : List (List Nat)) (i : Value) (wr : World) : Prop :=
  ∃ k T, k ≤ N ∧ i = .int .i64 (k : Nat) ∧ Part wr B g N T ∧ Holds T n (encL (M.take k) D n) ∧ Below B w wr ∧ B ≤ wr.heap.size
/-- the answer of Encode, where all is right -/
def EnPost (w : World) (n : Nat) (M D : List (List Nat)) (x : Value) (e : Ending) (w' : World) : Prop := ∃ v T, e = .returned (.tuple #[v, x]) ∧ Tab w' w.heap.size v T ∧ Holds T n (encL M D n) ∧ Below w.heap.size w w'

theorem Holds.at {T : List (Nat × Nat × List Nat)} {D : Nat} {M : List (List Nat)} (h : Holds T D M) {i : Nat} (h1 : i < T.length) (h2 : i < M.length) : T[i].2 = (D, M[i]) := by
  have := List.getElem_of_eq h (i := i) (by simpa using h1)
  simpa using this
theorem matL_len (D L G : Nat) : (matL D L G).length = D + L + G := by simp [matL]; omega
theorem matL_row (D L G : Nat) {i : Nat} (hi : i < (matL D L G).length) : ((matL D L G)[i]).length = D := by
  have hm : (matL D L G)[i] ∈ matL D L G := List.getElem_mem hi
  unfold matL at hm
  rcases List.mem_append.1 hm with hm | hm
  · rcases List.mem_append.1 hm with hm | hm
    · obtain ⟨j, _, e⟩ := List.mem_map.1 hm
      unfold matL
      rw [← e]; simp [dataL]
    · obtain ⟨j, _, e⟩ := List.mem_map.1 hm
      unfold matL
      rw [← e]; simp [localL]
  · obtain ⟨j, _, e⟩ := List.mem_map.1 hm
    unfold matL
    rw [← e]; simp [globalL]
theorem encL_snoc (M D : List (List Nat)) (n k : Nat) (hk : k < M.length) : encL (M.take (k + 1)) D n = encL (M.take k) D n ++ [combTo M[k] D n D.length] := by
  unfold encL
  rw [List.take_succ_eq_append_getElem hk, List.map_append]; rfl
set_option maxRecDepth 100000 in
set_option maxHeartbeats 4000000 in
theorem encode_fit (D L G : Nat) (hr : rightB D L G = true) (hD1 : 1 ≤ D) (hD : D ≤ 12) (hL : 1 ≤ L) (hL4 : L ≤ 4) (hG : G ≤ 4) (hdiv : D % L = 0) (vd : Value) (Dt : List (List Nat)) (w : World) (hd : Rd w vd Dt) (hlen : Dt.length = D) (hfit : Fit Dt) :
    Calls Tryz.prog 107 #[.agg #[.int .i64 D, .int .i64 L, .int .i64 G], vd] w fun e w' => EnPost w (Dt.getD 0 []).length (matL D L G) Dt .nilIface e w' := by
  have hnn : (((Dt.length : Nat) : Int) != (D : Int)) = false := by rw [hlen]; simp
  have hpos : 0 < Dt.length := by omega
  obtain ⟨ao, c, rfl, hl, hcc⟩ := id hd
  have hn4 : (Dt.getD 0 []).length ≤ 4096 := by
    have := (hfit 0 hpos)
    have h2 := this.2
    rw [this.1] at h2
    exact h2
  have hall : ∀ i (hi : i < Dt.length), (Dt[i]).length = (Dt.getD 0 []).length := fun i hi => (hfit i hi).1
  generalize hn : (Dt.getD 0 []).length = n at *
  have HALL := hide hall
  have HF := hide hfit
  have HLEN := hide hlen
  clear hcc hn hall hfit hlen
  go_enter Tryz.func107, Tryz.ntmps107
  go_wp2_with fail
  refine (matrix_right D L G hr hD hL hL4 hG hdiv _).mono ?_
  rintro e wa ⟨v, T, rfl, hT, hH, hba⟩
  rw [nblk_alloc] at hT hba
  have hsa := hba.size
  rw [nblk_alloc] at hsa
  obtain ⟨p0, p1, p2⟩ := box_cells hba
  have hbwa : Below w.heap.size w wa := ((Below.refl _ _).alloc (Nat.le_refl _) _).trans (hba.mono (by omega))
  have hda := hd.mono hbwa
  go_wp2_with fail
  refine (even_any _ Dt _ hda hpos).mono ?_
  rintro e wb ⟨r, rfl, hrt, rfl⟩
  obtain rfl : r = true := hrt.2 HF.out
  obtain ⟨mo, mcap, rfl, hmo⟩ := hT.slice
  have hTl := hH.length
  rw [matL_len] at hTl
  obtain ⟨mg, rfl⟩ := hmo (by intro e; rw [e] at hTl; simp at hTl; omega)
  have hTl2 : T.length ≤ 20 := by omega
  have HTL := hide hTl
  clear hTl hmo hrt
  go_wp2_with (at_make; refine wpList_mkRows _ rfl (.tmp 31) (.tmp 31) rfl _ T.length rfl rfl rfl (by omega) ?_; intro wc hRow hbc hz; clear hz)
  have hP0 : Part wc wb.heap.size wb.heap.size T.length [] := ⟨hRow.congr (fun i _ => by simp [shv]), fun p hp => by simp at hp, by simp⟩
  have hsc := hbc.size
  generalize hM : matL D L G = M at *
  have HM : Hid (∀ i (hi : i < M.length), (M[i]).length = D) := by intro i hi; subst hM; exact matL_row D L G hi
  have HH := hide hH
  have HMM := hide hM
  clear hRow hM hH p0 p1 p2
  go_loopw [35] (fun i wr => EcR wb wb.heap.size wb.heap.size T.length n M Dt i wr) (fun i _ => T.length - (intOf i).toNat)
  case atStart => exact ⟨0, [], Nat.zero_le _, rfl, hP0, rfl, hbc, hsc⟩
  case round =>
    clear hP0 hbc hsc
    rename World => wo
    obtain ⟨k, S, hk, rfl, hP, hHS, hbo, hso⟩ := hrel
    have hlenM := HH.out.length
    have hSl := hHS.length
    unfold encL at hSl
    rw [List.length_map, List.length_take] at hSl
    by_cases hlt : k < T.length
    · have hltM : k < M.length := by omega
      have hTo := hT.below hbo
      have hdo := hda.mono hbo
      have hca := hTo.cell_at hlt
      have hrow := hTo.row_at hlt
      have hat := HH.out.at hlt hltM
      have hMk := HM.out k hltM
      obtain ⟨⟨rb, rn, rl⟩, hTt⟩ : ∃ p, p = T[k] := ⟨_, rfl⟩
      rw [← hTt] at hca hrow hat
      simp only [hdr, Prod.mk.injEq] at hca hrow hat
      obtain ⟨rfl, rfl⟩ := hat
      rw [List.take_of_length_le (by omega)] at hrow
      rw [hMk] at hca hrow
      have hSk : S.length = k := by omega
      have hcS := hP.tab.cell (i := k) hlt
      have hfS := hP.tab.frozen k
      have hsnoc := encL_snoc M Dt n k hltM
      have HSN := hide hsnoc
      have HHS := hide hHS
      have HSK := hide hSk
      have HMK := hide hMk
      clear hsnoc hHS hSk hMk hlenM hSl hTt
      go_wp2_with fail
      refine (combine_any _ _ M[k] Dt n wo (by rw [HMK.out] at *; exact hrow) hdo hn4 HALL.out (by rw [HMK.out, HLEN.out]) hpos).mono ?_
      rintro e w2 ⟨b2, rfl, hb2, hB2, hbel2⟩
      have hP2 := hP.below hbel2
      have hcS2 := hP2.tab.cell (i := k) hlt
      have hfS2 := hP2.tab.frozen k
      have hs2 := hbel2.size
      have hpl := hP.lt
      have hP3 := hP2.push (n := n) (by omega) hB2 (by rw [combTo_len]; omega) (by rw [combTo_len]; omega) (combTo_lt _ _ (fun x hx => hrow.lt x hx) _ _) (fun p hp => by have := (hP.row p hp).2.1.lt; omega)
      rw [combTo_len, HSK.out] at hP3
      have hb3 := (hbo.trans (hbel2.mono hso)).setCell (p := ⟨wb.heap.size, k, none⟩) (Nat.le_refl _) (.slice (some ⟨b2, 0, none⟩) n n)
      have hH3 := HHS.out.push b2 (combTo M[k] Dt n Dt.length)
      rw [← HSN.out] at hH3
      have HH3 := hide hH3
      generalize shv S k = ov at *
      clear hP hP2 hB2 hbel2 hbo hrow hca hTo hdo hH3 hcS hfS HSN HHS HMK
      go_wp2
      go_roundw
      case rel => exact ⟨k + 1, _, by omega, by go_num, hP3, HH3.out, hb3, by rw [nblk_setCell]; omega⟩
      case measure => simp [intOf]; omega
    · have hkT : k = T.length := by omega
      have hkM : k = M.length := by omega
      have hHf : Holds S n (encL M Dt n) := by rw [hkM, List.take_length] at hHS; exact hHS
      have hTf := hP.done (by omega) (Nat.le_refl _) (by unfold maxLen; omega)
      have hbf := hbwa.trans (hbo.mono hbwa.size)
      have hTg := hTf.weaken (base' := w.heap.size) hbwa.size
      clear hHS hP hbo hTf hkT hkM hlenM hSl
      go_wp2
      go_ret2
      exact ⟨_, S, rfl, hTg, by rw [HMM.out]; exact hHf, hbf⟩
set_option maxRecDepth 100000 in
set_option maxHeartbeats 4000000 in
theorem encode_wrong (D L G : Int) (hr : rightB D L G = false) (vd : Value) (w : World) :
    Calls Tryz.prog 107 #[.agg #[.int .i64 D, .int .i64 L, .int .i64 G], vd] w fun e w' => e = .returned (.tuple #[.slice none 0 0, .iface 34 (.int .i64 1)]) ∧ Below w.heap.size w w' := by
  go_enter Tryz.func107, Tryz.ntmps107
  go_wp2_with fail
  refine (matrix_wrong D L G hr _).mono ?_
  rintro e wa ⟨rfl, hba⟩
  rw [nblk_alloc] at hba
  go_wp2
  go_ret2
  exact ⟨rfl, ((Below.refl _ _).alloc (Nat.le_refl _) _).trans (hba.mono (by omega))⟩
set_option maxRecDepth 100000 in
set_option maxHeartbeats 4000000 in
theorem encode_unfit (D L G : Nat) (hr : rightB D L G = true) (hD1 : 1 ≤ D) (hD : D ≤ 12) (hL : 1 ≤ L) (hL4 : L ≤ 4) (hG : G ≤ 4) (hdiv : D % L = 0) (vd : Value) (Dt : List (List Nat)) (w : World) (hd : Rd w vd Dt) (hun : ¬ (Dt.length = D ∧ Fit Dt)) :
    Calls Tryz.prog 107 #[.agg #[.int .i64 D, .int .i64 L, .int .i64 G], vd] w fun e w' => e = .returned (.tuple #[.slice none 0 0, .iface 34 (.int .i64 2)]) ∧ Below w.heap.size w w' := by
  obtain ⟨ao, c, rfl, hl, hcc⟩ := id hd
  clear hcc
  by_cases hlen : Dt.length = D
  · have hnn : (((Dt.length : Nat) : Int) != (D : Int)) = false := by rw [hlen]; simp
    have hpos : 0 < Dt.length := by omega
    have HF : Hid (¬ Fit Dt) := fun h => hun ⟨hlen, h⟩
    clear hun hlen
    go_enter Tryz.func107, Tryz.ntmps107
    go_wp2_with fail
    refine (matrix_right D L G hr hD hL hL4 hG hdiv _).mono ?_
    rintro e wa ⟨v, T, rfl, hT, hH, hba⟩
    rw [nblk_alloc] at hT hba
    obtain ⟨p0, p1, p2⟩ := box_cells hba
    have hbwa : Below w.heap.size w wa := ((Below.refl _ _).alloc (Nat.le_refl _) _).trans (hba.mono (by omega))
    have hda := hd.mono hbwa
    obtain ⟨mo, mcap, rfl, hmo⟩ := hT.slice
    clear hT hH hmo
    go_wp2_with fail
    refine (even_any _ Dt _ hda hpos).mono ?_
    rintro e wb ⟨r, rfl, hrt, rfl⟩
    obtain rfl : r = false := by cases r with | false => rfl | true => exact absurd (hrt.1 rfl) HF.out
    clear hrt
    go_wp2
    go_ret2
    exact ⟨rfl, hbwa⟩
  · have hnn : (((Dt.length : Nat) : Int) != (D : Int)) = true := by rw [bne_iff_ne]; omega
    clear hun hlen
    go_enter Tryz.func107, Tryz.ntmps107
    go_wp2_with fail
    refine (matrix_right D L G hr hD hL hL4 hG hdiv _).mono ?_
    rintro e wa ⟨v, T, rfl, hT, hH, hba⟩
    rw [nblk_alloc] at hT hba
    obtain ⟨p0, p1, p2⟩ := box_cells hba
    have hbwa : Below w.heap.size w wa := ((Below.refl _ _).alloc (Nat.le_refl _) _).trans (hba.mono (by omega))
    obtain ⟨mo, mcap, rfl, hmo⟩ := hT.slice
    clear hT hH hmo
    go_wp2
    go_ret2
    exact ⟨rfl, hbwa⟩
/-- the answers of Encode that are errors -/
def errOf (D L G : Int) (Dt : List (List Nat)) (x : Int) : Prop := (rightB D L G = false ∧ x = 1) ∨ (rightB D L G = true ∧ ¬ (((Dt.length : Nat) : Int) = D ∧ Fit Dt) ∧ x = 2)
end Go.Proofs.YtogdeaaphdlchaaGreatDoor
/-
  The rows of the shards that are not lost: as many as there are global parities may be lost, whichever they are.
-/
namespace Go.Proofs.YtogdeaaphdlchaaGreatDoor
open Gf

def keepTo (M : List (List Nat)) (lost k : Nat) : List (List Nat) := ((List.range k).filter (fun i => decide (lost / 2 ^ i % 2 = 0))).map (fun i => M.getD i [])
theorem keep_zero (M : List (List Nat)) (lost : Nat) : keepTo M lost 0 = [] := rfl
theorem keep_in (M : List (List Nat)) (lost k : Nat) (h : lost / 2 ^ k % 2 = 0) : keepTo M lost (k + 1) = keepTo M lost k ++ [M.getD k []] := by
  simp [keepTo, List.range_succ, h]
theorem keep_out (M : List (List Nat)) (lost k : Nat) (h : lost / 2 ^ k % 2 ≠ 0) : keepTo M lost (k + 1) = keepTo M lost k := by
  simp [keepTo, List.range_succ, h]
theorem keep_mem (M : List (List Nat)) (lost k : Nat) (hk : k ≤ M.length) : ∀ l ∈ keepTo M lost k, l ∈ M := by
  intro l hl
  simp [keepTo] at hl
  obtain ⟨i, ⟨hi, _⟩, rfl⟩ := hl
  rw [List.getElem?_eq_getElem (by omega)]
  exact List.getElem_mem _
theorem keep_len (M : List (List Nat)) (lost k : Nat) : (keepTo M lost k).length ≤ k := by
  unfold keepTo
  rw [List.length_map]
  exact Nat.le_trans (List.length_filter_le _ _) (by simp)
theorem rem_iff (T : List (List Nat)) (v : Nat → Nat) : Rem T 0 v ↔ ∃ l ∈ T, v = vec l := by
  constructor
  · rintro ⟨i, hi, _, rfl⟩; exact ⟨_, List.getElem_mem hi, rfl⟩
  · rintro ⟨l, hl, rfl⟩
    obtain ⟨i, hi, rfl⟩ := List.mem_iff_getElem.1 hl
    exact ⟨i, hi, Nat.zero_le _, rfl⟩
theorem rem_keep (M : List (List Nat)) (lost k : Nat) (v : Nat → Nat) : Rem (keepTo M lost k) 0 v ↔ ∃ i, i < k ∧ lost / 2 ^ i % 2 = 0 ∧ v = vec (M.getD i []) := by
  rw [rem_iff]
  constructor
  · rintro ⟨l, hl, rfl⟩
    simp only [keepTo, List.mem_map, List.mem_filter, List.mem_range, decide_eq_true_eq] at hl
    obtain ⟨i, ⟨hi, hb⟩, rfl⟩ := hl
    exact ⟨i, hi, hb, rfl⟩
  · rintro ⟨i, hi, hb, rfl⟩
    refine ⟨_, ?_, rfl⟩
    simp only [keepTo, List.mem_map, List.mem_filter, List.mem_range, decide_eq_true_eq]
    exact ⟨i, ⟨hi, hb⟩, rfl⟩
/-- how many are lost -/
def cnt (lost n : Nat) : Nat := (List.range n).countP (fun i => decide (lost / 2 ^ i % 2 = 1))
theorem cnt_succ (lost n : Nat) : cnt lost (n + 1) = cnt lost n + (if lost / 2 ^ n % 2 = 1 then 1 else 0) := by
  simp [cnt, List.range_succ, List.countP_append, List.countP_cons]
theorem cnt_le (lost n : Nat) : cnt lost n ≤ n := by
  have := List.countP_le_length (p := fun i => decide (lost / 2 ^ i % 2 = 1)) (l := List.range n)
  simpa [cnt] using this
theorem vec_data (D i : Nat) (hi : i < D) : vec (dataL D i) = unitV i := by
  funext j
  unfold vec dataL unitV
  by_cases e : j = i
  · subst e; simp [hi]
  · rw [if_neg e]
    simp [Ne.symm e, List.getElem?_replicate]
    split <;> rfl
theorem vec_global (D i j : Nat) : vec (globalL D i) j = if j < D then gi ((D + i) ^^^ j) else 0 := by
  unfold vec globalL
  by_cases h : j < D
  · simp [h]
  · simp [h]
theorem mat_data (D L G i : Nat) (hi : i < D) : (matL D L G).getD i [] = dataL D i := by
  simp [matL, List.getElem?_append, hi]
theorem mat_global (D L G i : Nat) (hi : i < G) : (matL D L G).getD (D + L + i) [] = globalL D i := by
  have e1 : ¬ D + L + i < D := by omega
  have e2 : ¬ D + L + i - D < L := by omega
  have e3 : D + L + i - D - L = i := by omega
  simp [matL, List.getElem?_append, e1, e2, e3, hi]
theorem clearV {R : (Nat → Nat) → Prop} (hR : ∀ r, R r → byteV r) {v : Nat → Nat} (hv : Span R v) : ∀ K : List Nat, (∀ k ∈ K, Span R (unitV k)) → Span R (fun j => if j ∈ K then 0 else v j)
  | [], _ => by simpa using hv
  | k :: K, h => by
    by_cases hk : k ∈ K
    · have e : (fun j => if j ∈ k :: K then 0 else v j) = fun j => if j ∈ K then 0 else v j := by
        funext j
        by_cases e1 : j = k
        · subst e1; simp [hk]
        · simp [e1]
      rw [e]; exact clearV hR hv K (fun j hj => h j (List.mem_cons_of_mem _ hj))
    · have hb := hv.byte k
      have t := Span.add hR (clearV hR hv K (fun j hj => h j (List.mem_cons_of_mem _ hj))) hb (h k List.mem_cons_self)
      have e : addV (fun j => if j ∈ K then 0 else v j) (v k) (unitV k) = fun j => if j ∈ k :: K then 0 else v j := by
        funext j
        show (if j ∈ K then 0 else v j) ^^^ gm (v k) (if j = k then 1 else 0) = _
        by_cases e1 : j = k
        · subst e1
          rw [if_neg hk, if_pos rfl, gm_one _ hb, Nat.xor_self, if_pos List.mem_cons_self]
        · rw [if_neg e1, gm_zero, Nat.xor_zero]
          by_cases e2 : j ∈ K
          · rw [if_pos e2, if_pos (List.mem_cons_of_mem _ e2)]
          · rw [if_neg e2, if_neg (by simp [e1, e2])]
      rwa [e] at t
theorem any_full (D L G lost : Nat) (hD : D ≤ 12) (hG : G ≤ 4) (hR : ∀ r, Rem (keepTo (matL D L G) lost (D + L + G)) 0 r → byteV r) (hc : cnt lost (D + L + G) ≤ G) :
    Full (Rem (keepTo (matL D L G) lost (D + L + G)) 0) 0 D := by
  have kd : ∀ j, j < D → lost / 2 ^ j % 2 = 0 → Span (Rem (keepTo (matL D L G) lost (D + L + G)) 0) (unitV j) := by
    intro j hj hb
    have hr : Rem (keepTo (matL D L G) lost (D + L + G)) 0 (unitV j) := (rem_keep _ _ _ _).2 ⟨j, by omega, hb, by rw [mat_data D L G j hj, vec_data D j hj]⟩
    exact Span.mem (unitV_byte j) hr
  have hcs : cnt lost (D + L + G) = cnt lost D + ((List.range L).countP (fun i => decide (lost / 2 ^ (D + i) % 2 = 1)) + (List.range G).countP (fun i => decide (lost / 2 ^ (D + L + i) % 2 = 1))) := by
    unfold cnt
    rw [List.range_add, List.countP_append, List.range_add, List.countP_append, List.countP_map, List.countP_map, Nat.add_assoc]
    rfl
  have hg := List.length_eq_countP_add_countP (fun i => decide (lost / 2 ^ (D + L + i) % 2 = 1)) (l := List.range G)
  rw [List.length_range] at hg
  have ng : (List.range G).countP (fun i => decide ¬ (decide (lost / 2 ^ (D + L + i) % 2 = 1)) = true) = ((List.range G).filter (fun i => decide (lost / 2 ^ (D + L + i) % 2 = 0))).length := by
    rw [← List.countP_eq_length_filter]
    congr 1
    funext i
    have := Nat.mod_two_eq_zero_or_one (lost / 2 ^ (D + L + i))
    rcases this with h | h <;> simp [h]
  have nl : cnt lost D = ((List.range D).filter (fun i => decide (lost / 2 ^ i % 2 = 1))).length := by rw [cnt, List.countP_eq_length_filter]
  refine Full.units hR fun j hj => ?_
  rcases Nat.mod_two_eq_zero_or_one (lost / 2 ^ j) with hb | hb
  · exact kd j hj hb
  · refine cauchy _ hR ((List.range D).filter (fun i => decide (lost / 2 ^ i % 2 = 1))) (((List.range G).filter (fun i => decide (lost / 2 ^ (D + L + i) % 2 = 0))).map (fun i => D + i)) (fun _ => 1)
      (List.nodup_range.filter _) ?_ ?_ ?_ ?_ ?_ j (by simp [hj, hb])
    · exact List.Pairwise.map _ (fun a b h => by omega) (List.nodup_range.filter _)
    · rw [List.length_map, ← nl, ← ng]; omega
    · intro i hi
      simp at hi
      exact ⟨by omega, by decide, by decide⟩
    · intro x hx
      simp at hx
      obtain ⟨i, ⟨hi, _⟩, rfl⟩ := hx
      refine ⟨by omega, fun k hk => ?_⟩
      simp at hk
      omega
    · intro x hx
      simp only [List.mem_map, List.mem_filter, List.mem_range, decide_eq_true_eq] at hx
      obtain ⟨i, ⟨hi, hbi⟩, rfl⟩ := hx
      have hr : Rem (keepTo (matL D L G) lost (D + L + G)) 0 (vec (globalL D i)) := (rem_keep _ _ _ _).2 ⟨D + L + i, by omega, hbi, by rw [mat_global D L G i hi]⟩
      have t := clearV hR (Span.mem (hR _ hr) hr) ((List.range D).filter (fun i => decide (lost / 2 ^ i % 2 = 0))) (fun k hk => by
        simp only [List.mem_filter, List.mem_range, decide_eq_true_eq] at hk
        exact kd k hk.1 hk.2)
      have e : (fun j => if j ∈ (List.range D).filter (fun i => decide (lost / 2 ^ i % 2 = 0)) then 0 else vec (globalL D i) j) = cauV ((List.range D).filter (fun i => decide (lost / 2 ^ i % 2 = 1))) (fun _ => 1) (D + i) := by
        funext k
        unfold cauV
        rw [vec_global]
        simp only [List.mem_filter, List.mem_range, decide_eq_true_eq]
        by_cases hk : k < D
        · rcases Nat.mod_two_eq_zero_or_one (lost / 2 ^ k) with hb2 | hb2
          · rw [if_pos ⟨hk, hb2⟩, if_neg (by omega)]
          · rw [if_neg (by omega), if_pos hk, if_pos ⟨hk, hb2⟩]
            have := gi_lt (a := (D + i) ^^^ k) (xlt (by omega) (by omega))
            rw [gm_comm (a := 1) (by decide) this, gm_one _ this]
        · rw [if_neg (by omega), if_neg hk, if_neg (by omega)]
      rwa [e] at t
/-- what can be repaired can be, if less is lost -/
theorem keep_mono (M : List (List Nat)) (lost less k D : Nat) (hs : ∀ i, i < k → lost / 2 ^ i % 2 = 0 → less / 2 ^ i % 2 = 0) (h : Full (Rem (keepTo M lost k) 0) 0 D) : Full (Rem (keepTo M less k) 0) 0 D :=
  h.mono fun r hr => by
    obtain ⟨i, hi, hb, e⟩ := (rem_keep _ _ _ _).1 hr
    exact (rem_keep _ _ _ _).2 ⟨i, hi, hs i hi hb, e⟩
theorem keep_none (M : List (List Nat)) (lost k D : Nat) (hD : 1 ≤ D) (hs : ∀ i, i < k → lost / 2 ^ i % 2 = 1) : ¬ Full (Rem (keepTo M lost k) 0) 0 D := by
  intro h
  have := Span.nought (c := 0) (fun r hr => by
    obtain ⟨i, hi, hb, _⟩ := (rem_keep _ _ _ _).1 hr
    have := hs i hi
    omega) (h (unitV 0) (unitV_byte 0) (fun j hj => if_neg (by omega)))
  simp [unitV] at this
end Go.Proofs.YtogdeaaphdlchaaGreatDoor
/-
  The rows of the shards that are not lost: the program's kept.
-/
namespace Go.Proofs.YtogdeaaphdlchaaGreatDoor
open Go.RowKit Go.Deep Gf

theorem bit_u64 (lost k : Nat) (hl : lost < 18446744073709551616) : bits .and .u64 ((lost : Int) / 2 ^ k) 1 = ((lost / 2 ^ k % 2 : Nat) : Int) := by
  have c : (lost : Int) / 2 ^ k = ((lost / 2 ^ k : Nat) : Int) := by simp
  have h : lost / 2 ^ k < 18446744073709551616 := Nat.lt_of_le_of_lt (Nat.div_le_self _ _) hl
  have e := u64_and_nat (lost / 2 ^ k) 1 h (by decide)
  rw [and1] at e
  rw [c]; exact e
/-- a list that the call made, of rows that were there before it -/
def Rl (w0 w : World) (v : Value) (K : List (List Nat)) : Prop :=
  ∃ xs : List Value, xs.length = K.length ∧ (∀ i (h : i < xs.length) (h' : i < K.length), Bs w0 xs[i] K[i]) ∧ w.ownsRow w0.heap.size 166 1 v xs.length xs ∧ Below w0.heap.size w0 w
theorem Rl.nil (w : World) : Rl w w (.slice none 0 0) [] := ⟨[], rfl, fun i h => absurd h (by simp), World.ownsRow_nil _ _ _ _, Below.refl _ _⟩
theorem Rl.rd {w0 w : World} {v : Value} {K : List (List Nat)} (h : Rl w0 w v K) (hl : K.length ≤ 100000) : Rd w v K := by
  obtain ⟨xs, hlen, hB, hown, hb⟩ := h
  rcases hown.2 with ⟨h0, h1⟩ | ⟨g, cap, cur, e1, e2, e3, e4, e5, e6, e7⟩
  · have : K = [] := List.eq_nil_of_length_eq_zero (by omega)
    subst this
    exact ⟨none, 0, h0, by simp, fun h => absurd rfl h⟩
  · refine ⟨some ⟨g, 0, none⟩, cap, by rw [e1, hlen], by omega, fun _ => ⟨g, 0, rfl, fun i hi => ?_⟩⟩
    have hix : i < xs.length := by omega
    have := hown.cells (g := g) (by rw [e1]; rfl) i xs[i] (by simp [hix])
    rw [add0] at this
    exact ⟨xs[i], by rw [Nat.zero_add]; exact this, (hB i hix hi).mono hb⟩
theorem Rl.push {w0 w w1 w2 : World} {v v' u : Value} {K : List (List Nat)} {l : List Nat} {o : Obj} {xs : List Value} (hlen : xs.length = K.length) (hB : ∀ i (h : i < xs.length) (h' : i < K.length), Bs w0 xs[i] K[i])
    (hown : w.ownsRow w0.heap.size 166 1 v xs.length xs) (hb : Below w0.heap.size w0 w) (hw : w1 = w.alloc o) (hu : Bs w0 u l)
    (hg : w1.grownBy w2 v.ownBlock) (hown' : w2.ownsRow w0.heap.size 166 1 v' (xs.length + 1) (xs ++ [u])) : Rl w0 w2 v' (K ++ [l]) := by
  subst hw
  refine ⟨xs ++ [u], by simp [hlen], fun i h h' => ?_, by simpa using hown', (hb.alloc hb.size o).grown hg (by rw [nblk_alloc]; have := hb.size; omega) fun k hk => (hown.lt k hk).1⟩
  by_cases hi : i < xs.length
  · rw [List.getElem_append_left hi, List.getElem_append_left (by omega)]
    exact hB i hi (by omega)
  · have e : i = xs.length := by simp at h; omega
    subst e
    rw [List.getElem_append_right (Nat.le_refl _), List.getElem_append_right (by omega)]
    simpa [hlen] using hu
theorem Bs.one {w : World} {u : Value} {l : List Nat} (h : Bs w u l) : u.oneCell' = true := by
  obtain ⟨ao, c, rfl, _⟩ := h
  rfl
def KpR (w : World) (M : List (List Nat)) (lost : Nat) (v i : Value) (wr : World) : Prop := ∃ k : Nat, k ≤ M.length ∧ i = .int .i64 k ∧ Rl w wr v (keepTo M lost k)
set_option maxRecDepth 100000 in
set_option maxHeartbeats 2000000 in
theorem kept_any (vm : Value) (M : List (List Nat)) (lost : Nat) (w : World) (hM : Rd w vm M) (hl : lost < 18446744073709551616) (hm : M.length ≤ 64) :
    Calls Tryz.prog 48 #[vm, .int .u64 lost] w fun e w' => ∃ v, e = .returned v ∧ Rl w w' v (keepTo M lost M.length) := by
  obtain ⟨i0, hi0, hz0, hz1, hz2⟩ := info_parts Tryz.infoBytes
  rcases hM.cases with ⟨rfl, ao, c, rfl⟩ | ⟨b, off, c, rfl, _, hc⟩
  · go_enter Tryz.func48, Tryz.ntmps48
    go_wp2
    refine wp_loop_rounds 1 ?_
    rw [rounds_succ]
    go_wp2
    go_ret
    exact ⟨_, rfl, Rl.nil _⟩
  · clear hM
    go_enter Tryz.func48, Tryz.ntmps48
    go_wp2
    go_loopw [5, 10] (fun v i wr => KpR w M lost v i wr) (fun _ i _ => M.length - (intOf i).toNat)
    case atStart => exact ⟨0, Nat.zero_le _, rfl, Rl.nil _⟩
    case round =>
      rename World => wo
      obtain ⟨k, hk, rfl, hR⟩ := hrel
      by_cases hlt : k < M.length
      · obtain ⟨u, hu, hB⟩ := hc k hlt
        have hu' : wo.cell? ⟨b, off + k, none⟩ = some u := by rw [hR.choose_spec.2.2.2.cell (block_lt_of_cell hu)]; exact hu
        obtain ⟨au, cu, rfl, _⟩ := id hB
        have hbit := bit_u64 lost k hl
        have HK := hide (keep_len M lost k)
        have HC := hide hc
        have HB := hide hB
        have HU := hide hu
        have hget : M.getD k [] = M[k] := by simp [hlt]
        have HGE := hide hget
        clear hc hB hu hget
        by_cases hz : lost / 2 ^ k % 2 = 0
        · rw [hz] at hbit
          have HKI := hide (keep_in M lost k hz)
          clear hz
          obtain ⟨xs, hlen, hX, hown, hbr⟩ := hR
          have HX := hide hX
          have HLN := hide hlen
          have hxl : xs.length ≤ 64 := by rw [hlen]; exact Nat.le_trans HK.out (by omega)
          have hs := hbr.size
          clear hX hlen
          go_wp2_with (at_builtin; refine wpList_append_own _ rfl (.tmp 20) (.tmp 22) 132 rfl w.heap.size 166 i0 (.slice none 0 0) 1 24 Tryz.underlying132 hi0 hz0 hz1 hz2 rfl (by decide) _ xs.length xs rfl (ownsRow_below hown ((Below.refl _ _).alloc (Nat.le_refl _) _)) ⟨wo.heap.size, 0, none⟩ 1 1 [.slice au (M[k]).length cu] rfl rfl (one_new _ _ rfl _ _) (by intro q hq; simp at hq; rw [hq]; exact HB.out.one) (by unfold maxLen; omega) (by omega) (by rw [nblk_alloc]; omega) ?_; intro v' w2 hown' hgrow hnn)
          have hR2 := Rl.push HLN.out HX.out hown hbr rfl HB.out hgrow hown'
          rw [← HGE.out, ← HKI.out] at hR2
          clear hown hown' hgrow hnn hbr hu'
          go_wp2
          go_roundw
          case rel => exact ⟨k + 1, by omega, by go_num, hR2⟩
          case measure => simp [intOf]; omega
        · have h1 : lost / 2 ^ k % 2 = 1 := by omega
          rw [h1] at hbit
          have HKO := hide (keep_out M lost k hz)
          clear hz h1
          have HR := hide hR
          clear hR
          go_wp2
          go_roundw
          case rel => exact ⟨k + 1, by omega, by go_num, by rw [HKO.out]; exact HR.out⟩
          case measure => simp [intOf]; omega
      · have hkk : k = M.length := by omega
        rw [hkk] at hR
        clear hc hkk
        go_wp2
        go_ret
        exact ⟨_, rfl, hR⟩
end Go.Proofs.YtogdeaaphdlchaaGreatDoor
/-
  Lists of rows that are exchanged, and worked off: what becomes of them.
-/
namespace Go.Proofs.YtogdeaaphdlchaaGreatDoor
open Go.RowKit Go.Deep Gf

/-- two rows are exchanged -/
def swp (T : List (Nat × Nat × List Nat)) (p r : Nat) : List (Nat × Nat × List Nat) := (T.set p (T.getD r (0, 0, []))).set r (T.getD p (0, 0, []))
theorem swp_len (T : List (Nat × Nat × List Nat)) (p r : Nat) : (swp T p r).length = T.length := by simp [swp]
theorem swp_get (T : List (Nat × Nat × List Nat)) (p r i : Nat) (hp : p < T.length) (hr : r < T.length) (hi : i < T.length) (h' : i < (swp T p r).length) :
    (swp T p r)[i] = if i = r then T[p] else if i = p then T[r] else T[i] := by
  have e1 : T.getD p (0, 0, []) = T[p] := by simp [hp]
  have e2 : T.getD r (0, 0, []) = T[r] := by simp [hr]
  apply Option.some.inj
  rw [← List.getElem?_eq_getElem h']
  unfold swp
  rw [e1, e2, List.getElem?_set, List.getElem?_set]
  by_cases c1 : r = i
  · subst c1; simp [hr]
  · by_cases c2 : p = i
    · subst c2; simp [hp, c1, Ne.symm c1]
    · simp [c1, c2, Ne.symm c1, Ne.symm c2, hi]
theorem swp_mem (T : List (Nat × Nat × List Nat)) (p r : Nat) (hp : p < T.length) (hr : r < T.length) : ∀ x ∈ swp T p r, x ∈ T := by
  intro x hx
  obtain ⟨i, hi, rfl⟩ := List.mem_iff_getElem.1 hx
  have hi' : i < T.length := by rw [swp_len] at hi; exact hi
  rw [swp_get T p r i hp hr hi']
  split
  · exact List.getElem_mem _
  · split
    · exact List.getElem_mem _
    · exact List.getElem_mem _
theorem Tab.swap {w : World} {B g n cap : Nat} {T : List (Nat × Nat × List Nat)} (h : Tab w B (.slice (some ⟨g, 0, none⟩) n cap) T) {p r : Nat} (hp : p < T.length) (hr : r < T.length) :
    Tab ((w.setCell ⟨g, p, none⟩ (hdr T[r])).setCell ⟨g, r, none⟩ (hdr T[p])) B (.slice (some ⟨g, 0, none⟩) n cap) (swp T p r) := by
  obtain ⟨e0, h2⟩ := h.own
  have hne : ∀ q ∈ T, q.1 ≠ g := fun q hq e => own_ne h.own (h.row q hq).2.1 (by rw [e]; rfl)
  have hrow : ∀ q ∈ T, Brow ((w.setCell ⟨g, p, none⟩ (hdr T[r])).setCell ⟨g, r, none⟩ (hdr T[p])) q.1 q.2.2 := fun q hq =>
    ((h.row q hq).2.1.other (a := ⟨g, p, none⟩) (hne q hq) _).other (a := ⟨g, r, none⟩) (hne q hq) _
  refine ⟨⟨by simp [swp], ?_⟩, fun q hq => ?_, ?_⟩
  · rcases h2 with ⟨h0, _⟩ | ⟨g', cap', cur, e1, e2, e3, e4, e5, e6, e7⟩
    · simp at h0
    · simp at e1
      obtain ⟨rfl, rfl, rfl⟩ := e1
      refine .inr ⟨g, cap, (cur.setIfInBounds p (hdr T[r])).setIfInBounds r (hdr T[p]), by rw [swp_len], e2, ?_, by rw [swp_len]; exact e4, e5, by simpa using e6, ?_⟩
      · simp [World.setCell, Array.getElem?_modify, e3]
      · rw [swp_len]
        simp only [Array.toList_setIfInBounds]
        rw [List.take_set, List.take_set, e7]
        apply List.ext_getElem
        · simp [swp]
        · intro i h1 h2
          have hi : i < T.length := by simpa [swp] using h2
          rw [List.getElem_map, swp_get T p r i hp hr hi]
          simp only [List.getElem_set, List.getElem_map]
          by_cases c1 : r = i
          · subst c1; simp
          · by_cases c2 : p = i
            · subst c2; simp [c1, Ne.symm c1]
            · simp [c1, c2, Ne.symm c1, Ne.symm c2]
  · have hq' := swp_mem T p r hp hr q hq
    obtain ⟨a1, a2, a3⟩ := h.row q hq'
    exact ⟨a1, hrow q hq', a3⟩
  · have hnd := List.pairwise_iff_getElem.1 h.nodup
    have key : ∀ i j (hi : i < T.length) (hj : j < T.length), i ≠ j → T[i].1 ≠ T[j].1 := by
      intro i j hi hj hij e
      rcases Nat.lt_or_gt_of_ne hij with h' | h'
      · exact hnd i j (by simpa using hi) (by simpa using hj) h' (by simpa using e)
      · exact hnd j i (by simpa using hj) (by simpa using hi) h' (by simpa using e.symm)
    refine List.pairwise_iff_getElem.2 fun i j hi hj hij => ?_
    have hi' : i < T.length := by simpa [swp] using hi
    have hj' : j < T.length := by simpa [swp] using hj
    rw [List.getElem_map, List.getElem_map, swp_get T p r i hp hr hi', swp_get T p r j hp hr hj']
    by_cases c1 : i = r
    · rw [if_pos c1]
      by_cases c2 : j = r
      · omega
      · rw [if_neg c2]
        by_cases c3 : j = p
        · rw [if_pos c3]; exact key p r hp hr (by omega)
        · rw [if_neg c3]; exact key p j hp hj' (fun h => c3 h.symm)
    · rw [if_neg c1]
      by_cases c2 : i = p
      · rw [if_pos c2]
        by_cases c3 : j = r
        · rw [if_pos c3]; exact key r p hr hp (by omega)
        · rw [if_neg c3]
          by_cases c4 : j = p
          · omega
          · rw [if_neg c4]; exact key r j hr hj' (fun h => c3 h.symm)
      · rw [if_neg c2]
        by_cases c3 : j = r
        · rw [if_pos c3]; exact key i p hi' hp c2
        · rw [if_neg c3]
          by_cases c4 : j = p
          · rw [if_pos c4]; exact key i r hi' hr c1
          · rw [if_neg c4]; exact key i j hi' hj' (by omega)
/-- a multiple of lp is added to l, from c on, as far as j -/
def adTo (l lp : List Nat) (f c j : Nat) : List Nat := (List.range l.length).map fun q => if c ≤ q ∧ q < j then l.getD q 0 ^^^ gm f (lp.getD q 0) else l.getD q 0
theorem adTo_len (l lp : List Nat) (f c j : Nat) : (adTo l lp f c j).length = l.length := by simp [adTo]
theorem adTo_start (l lp : List Nat) (f c : Nat) : adTo l lp f c c = l := by
  unfold adTo
  apply List.ext_getElem
  · simp
  · intro q h1 h2
    simp [h2]
    omega
theorem adTo_get (l lp : List Nat) (f c j : Nat) (hj : j < l.length) : (adTo l lp f c j).getD j 0 = l.getD j 0 := by simp [adTo, hj]
theorem adTo_step (l lp : List Nat) (f c j : Nat) (hc : c ≤ j) : (adTo l lp f c j).set j (l.getD j 0 ^^^ gm f (lp.getD j 0)) = adTo l lp f c (j + 1) := by
  unfold adTo
  apply List.ext_getElem
  · simp
  · intro q h1 h2
    simp [List.getElem_set]
    by_cases e : j = q
    · subst e; simp [hc]
    · simp only [if_neg e]
      by_cases e2 : c ≤ q ∧ q < j
      · rw [if_pos e2, if_pos ⟨e2.1, by omega⟩]
      · rw [if_neg e2, if_neg (by omega)]
theorem adTo_lt {l lp : List Nat} (hl : ∀ x ∈ l, x < 256) {f : Nat} (hf : f < 256) (c j : Nat) : ∀ x ∈ adTo l lp f c j, x < 256 := by
  intro x hx
  obtain ⟨q, _, rfl⟩ := List.mem_map.1 hx
  have := getD_lt hl q
  split
  · exact xlt this (gm_lt _ hf)
  · exact this
theorem adTo_vec (l lp : List Nat) (f c W : Nat) (h1 : l.length = W) (h2 : lp.length = W) (hz : ∀ q, q < c → vec lp q = 0) : vec (adTo l lp f c W) = addV (vec l) f (vec lp) := by
  funext q
  show (adTo l lp f c W).getD q 0 = l.getD q 0 ^^^ gm f (lp.getD q 0)
  by_cases hq : q < W
  · by_cases hc : c ≤ q
    · simp [adTo, h1, hq, hc]
    · have : lp.getD q 0 = 0 := hz q (by omega)
      rw [this, gm_zero, Nat.xor_zero]
      simp [adTo, h1, hq, hc]
  · have e1 : lp.getD q 0 = 0 := by simp [List.getElem?_eq_none (show lp.length ≤ q by omega)]
    have e2 : l.getD q 0 = 0 := by simp [List.getElem?_eq_none (show l.length ≤ q by omega)]
    have e3 : (adTo l lp f c W).getD q 0 = 0 := by
      rw [List.getD_eq_getElem?_getD, List.getElem?_eq_none (by rw [adTo_len]; omega)]; rfl
    rw [e1, e2, e3, gm_zero]
    exact (Nat.xor_self 0).symm
end Go.Proofs.YtogdeaaphdlchaaGreatDoor
