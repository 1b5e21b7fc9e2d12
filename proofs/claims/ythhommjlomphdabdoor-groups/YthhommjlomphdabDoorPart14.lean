import Derived.Test.YthhommjlomphdabDoorFewest
import Derived.Test.YthhommjlomphdabDoorPart09
import Derived.Test.YthhommjlomphdabDoorPart05
import Derived.Test.YthhommjlomphdabDoorPart04
import Derived.Test.YthhommjlomphdabDoorPart08
import Derived.Test.YthhommjlomphdabDoorPart02
import Derived.Test.YthhommjlomphdabDoorPart03
import Derived.Deep.QuietTactic
import Derived.BigQuiet
/-
  The checks of the parities: the program's checksOf.
-/
namespace Go.Proofs.YthhommjlomphdabDoor
open Go.RowKit Go.Deep Gf

/-- the head of row q is written over -/
def cpF (m : Nat → Nat → Nat) (q : Nat) (src : List Nat) : Nat → Nat → Nat := fun r j => if r = q ∧ j < src.length then src.getD j 0 else m r j
theorem wpList_ckcp {w : World} {ops : Array Oper} {rest : List Oper} {o : Oper} {a : Act} {Q : Exit → Act → World → Prop} (hgd : o.guard = none) (d s : Operand)
    (ho : o.op = .call { callee := .builtin .copy, args := #[d, s], argTypes := #[59, 59] }) (b q : Nat) (v : Value) (hd : a.eval d = .slice (some ⟨b, q * 16, none⟩) 16 16) (hs : a.eval s = v)
    (C : Ck) (src : List Nat) (hC : CkAt w b C) (hq : q < 8) (hS : Bs w v src) (hle : src.length ≤ 16)
    (h : ∀ w', CkAt w' b ⟨cpF C.m q src, C.told, C.count⟩ → Below b w w' → wpList Tryd.prog ops Q rest (a.put o.dst (goInt src.length)) w') : wpList Tryd.prog ops Q (o :: rest) a w := by
  obtain ⟨ao, c, rfl, h1, h2, h3, h4⟩ := hS
  refine wpList_copy_splice hgd d s 59 59 ho 5 Tryd.underlying59 (by kernel_rfl) (some ⟨b, q * 16, none⟩) ao 16 16 src.length c hd hs b (q * 16) _ 68 hC.heap (src.map (fun x => Value.int .u8 ((x : Nat) : Int))) ?_ ?_ ?_ ?_ b w (Below.refl _ _) (Nat.le_refl _) ?_
  · rw [List.length_map]
    show src.length = min src.length 16
    omega
  · intro hp
    rw [List.length_map] at hp
    obtain ⟨b', off, rfl, hc⟩ := h4 (by intro e; rw [e] at hp; simp at hp)
    refine ⟨rfl, _, rfl, fun j u hj => ?_⟩
    have hjl : j < src.length := by
      obtain ⟨q, _⟩ := List.getElem?_eq_some_iff.1 hj
      simpa using q
    rw [Addr.add_mid, hc j hjl]
    simp [hjl] at hj
    simp [hjl, hj]
  · simp; omega
  · intro u hu
    obtain ⟨x, _, rfl⟩ := List.mem_map.1 hu
    rfl
  · intro w' hw' hb'
    have hw := hw'.out
    rw [List.length_map]
    refine h w' ⟨_, hw, ?_, fun i hi => ?_⟩ hb'
    · rw [List.size_toArray, length_splice _ _ _ (by simp; omega)]; simp
    · unfold splice
      rw [List.getElem?_toArray]
      have hA : ∀ x, x < 130 → ((List.range 130).map (ckV C))[x]? = some (ckV C x) := fun x hx => by rw [List.getElem?_map, List.getElem?_range hx]; rfl
      have hL : ((List.range 130).map (ckV C)).length = 130 := by rw [List.length_map, List.length_range]
      by_cases q1 : i < q * 16
      · rw [List.getElem?_append_left (by simp; omega), List.getElem?_take, if_pos q1, hA i hi]
        congr 1
        unfold ckV
        rw [if_pos (by omega), if_pos (by omega)]
        show _ = Value.int .u8 ((cpF C.m q src (i / 16) (i % 16) : Nat) : Int)
        unfold cpF; rw [if_neg (by omega)]
      · have e0 : (((List.range 130).map (ckV C)).take (q * 16)).length = q * 16 := by rw [List.length_take, hL]; omega
        rw [List.getElem?_append_right (by rw [e0]; omega), e0]
        by_cases q2 : i < q * 16 + src.length
        · rw [List.getElem?_append_left (by simp; omega)]
          have q3 : i - q * 16 < src.length := by omega
          rw [List.getElem?_map, List.getElem?_eq_getElem q3]
          simp only [Option.map_some]
          congr 1
          unfold ckV
          rw [if_pos (by omega)]
          show _ = Value.int .u8 ((cpF C.m q src (i / 16) (i % 16) : Nat) : Int)
          unfold cpF
          rw [if_pos (by omega), show i % 16 = i - q * 16 by omega, List.getD_eq_getElem?_getD, List.getElem?_eq_getElem q3]
          rfl
        · rw [List.getElem?_append_right (by simp; omega)]
          simp only [List.length_map]
          rw [List.getElem?_drop, show q * 16 + src.length + (i - q * 16 - src.length) = i by omega, hA i hi]
          congr 1
          unfold ckV
          by_cases q3 : i < 128
          · rw [if_pos q3, if_pos q3]
            show _ = Value.int .u8 ((cpF C.m q src (i / 16) (i % 16) : Nat) : Int)
            unfold cpF; rw [if_neg (by omega)]
          · rw [if_neg q3, if_neg q3]
theorem ck_one {w : World} {b : Nat} {C : Ck} (h : CkAt w b C) (q i v : Nat) (hq : q < 8) (hi : i < 16) : CkAt (w.setCell ⟨b, q * 16 + i, none⟩ (.int .u8 (v : Int))) b ⟨fun r j => if r = q ∧ j = i then v else C.m r j, C.told, C.count⟩ :=
  (h.set (q * 16 + i) (.int .u8 (v : Int))).congr (fun x hx => by
    unfold ckV
    by_cases e : x = q * 16 + i
    · rw [if_pos e, if_pos (by omega)]
      show _ = Value.int .u8 ((if x / 16 = q ∧ x % 16 = i then v else _ : Nat) : Int)
      rw [if_pos (by omega)]
    · rw [if_neg e]
      by_cases h2 : x < 128
      · rw [if_pos h2, if_pos h2]
        show _ = Value.int .u8 ((if x / 16 = q ∧ x % 16 = i then v else C.m (x / 16) (x % 16) : Nat) : Int)
        rw [if_neg (by omega)]
      · rw [if_neg h2, if_neg h2])
/-- the rows of a matrix, as numbers -/
def mf (M : List (List Nat)) (i j : Nat) : Nat := (M.getD i []).getD j 0
theorem ck0_none (M : Nat → Nat → Nat) (D : Nat) : ck0 M D 0 = ckZ := by
  unfold ck0 ckZ
  congr 1
theorem ck0_next (M : List (List Nat)) (D k : Nat) (hl : (M.getD (D + k) []).length = D) :
    (⟨fun r j => if r = k ∧ j = D + k then 1 else cpF (ck0 (mf M) D k).m k (M.getD (D + k) []) r j, 0, k + 1⟩ : Ck) = ck0 (mf M) D (k + 1) := by
  unfold ck0
  congr 1
  funext r j
  show (if r = k ∧ j = D + k then 1 else (if r = k ∧ j < (M.getD (D + k) []).length then (M.getD (D + k) []).getD j 0 else (if r < k then (if j < D then mf M (D + r) j else if j = D + r then 1 else 0) else 0))) = (if r < k + 1 then (if j < D then mf M (D + r) j else if j = D + r then 1 else 0) else 0)
  rw [hl]
  by_cases e : r = k
  · subst e
    by_cases h1 : j = D + r
    · simp [h1]; intro h; omega
    · by_cases h2 : j < D
      · simp [h1, h2, mf]
      · simp [h1, h2]
  · by_cases h1 : r < k
    · simp [e, h1, show r < k + 1 by omega]
    · simp [e, h1, show ¬ r < k + 1 by omega]
def CoR (w : World) (M : List (List Nat)) (D : Nat) (i : Value) (wr : World) : Prop :=
  ∃ k : Nat, D + k ≤ M.length ∧ i = .int .i64 (k : Int) ∧ CkAt wr (w.heap.size + 1) (ck0 (mf M) D k) ∧ CkAt wr w.heap.size ckZ ∧ Below w.heap.size w wr
set_option maxRecDepth 100000 in
set_option maxHeartbeats 4000000 in
theorem checksOf_any (b off c : Nat) (M : List (List Nat)) (D : Nat) (w : World) (hcap : M.length ≤ c) (hc : ∀ i (hi : i < M.length), ∃ u, w.cell? ⟨b, off + i, none⟩ = some u ∧ Bs w u M[i]) (hD : 1 ≤ D) (hDM : D < M.length) (h16 : M.length ≤ 16) (hP : M.length ≤ D + 8) (hrow : ∀ i, i < M.length → (M.getD i []).length = D) :
    Calls Tryd.prog 38 #[.slice (some ⟨b, off, none⟩) M.length c, .int .i64 D] w fun e w' => e = .returned (.agg (ckA (ck0 (mf M) D (M.length - D)))) ∧ Below w.heap.size w w' := by
  have hz := zeroCk
  have hszz := ckA_size ckZ
  have hDi : (D : Int) ≤ (M.length : Int) := by omega
  have hcD : c - D ≠ 0 := by omega
  have hcD2 : ¬ c ≤ D := by omega
  have hcD3 : D < c := by omega
  have HC := hide hc
  have HR := hide hrow
  clear hc hrow
  have hst : CoR w M D (.int .i64 (0 : Nat)) ((w.alloc (.cells (ckA ckZ) 68)).alloc (.cells (ckA ckZ) 68)) := by
    refine ⟨0, by omega, rfl, ?_, (CkAt.new w ckZ).keep (Below.heap_alloc _ _ _ (by simp)), ((Below.refl _ _).alloc (Nat.le_refl _) _).alloc (by simp) _⟩
    rw [ck0_none]
    have h := CkAt.new (w.alloc (.cells (ckA ckZ) 68)) ckZ
    rw [World.size_alloc] at h
    exact h
  have HST := hide hst
  clear hst
  go_enter Tryd.func38, Tryd.ntmps38
  go_wp2
  clear hz hszz
  go_loopw [12] (fun i wr => CoR w M D i wr) (fun i _ => (M.length - D) - (intOf i).toNat)
  case atStart => exact HST.out
  case round =>
    clear HST
    rename World => wo
    obtain ⟨k, hk, rfl, hC, hZ, hb⟩ := hrel
    by_cases hlt : D + k < M.length
    · have hki : (k : Int) < ((M.length - D : Nat) : Int) := by omega
      obtain ⟨u, hu, hB⟩ := HC.out (D + k) hlt
      have hu' : wo.cell? ⟨b, off + D + k, none⟩ = some u := by rw [Nat.add_assoc, hb.cell (block_lt_of_cell hu)]; exact hu
      have hBo := hB.mono hb
      have hrl := HR.out (D + k) hlt
      have hg : M.getD (D + k) [] = M[D + k] := by simp [hlt]
      rw [hg] at hrl
      have hnx := ck0_next M D k (by rw [hg]; exact hrl)
      rw [hg] at hnx
      have hsl := fun w' => row_slice w' (w.heap.size + 1) (k * 16)
      have hk8 : (k : Int) < 8 := by omega
      have hDk : (D : Int) + (k : Int) < 16 := by omega
      have hwr : wrap64 ((D : Int) + (k : Int)) = ((D + k : Nat) : Int) := by unfold wrap64; omega
      have hwr2 : IntKind.i64.wrap ((D : Int) + (k : Int)) = ((D + k : Nat) : Int) := by rw [IntKind.wrap_i64]; omega
      have hwc : wrap64 ((k : Int) + 1) = ((k + 1 : Nat) : Int) := by unfold wrap64; omega
      have hwc2 : IntKind.i64.wrap ((k : Int) + 1) = ((k + 1 : Nat) : Int) := by rw [IntKind.wrap_i64]; omega
      have HNX := hide hnx
      have HB := hide hBo
      have HCC := hide hC
      have HZ := hide hZ
      have HBL := hide hb
      have HRL := hide hrl
      clear hnx hBo hC hZ hb hB hu HR hg hrl
      generalize M[D + k] = row at *
      go_wp2_with (refine wpList_ckcp rfl (.tmp 20) (.tmp 21) rfl (w.heap.size + 1) k _ rfl rfl _ row HCC.out (by omega) HB.out (by have := HRL.out; omega) ?_; intro w2 hC2 hb2; have c1 := hC2.at k (D + k) (by omega) (by omega); have f1 := hC2.frozen (k * 16 + (D + k)); have c3' : (w2.setCell ⟨w.heap.size + 1, k * 16 + (D + k), none⟩ (.int .u8 1)).cell? ⟨w.heap.size + 1, 129, none⟩ = some (.int .i64 (k : Int)) := (ck_one hC2 k (D + k) 1 (by omega) (by omega)).countC; have f3' : (w2.setCell ⟨w.heap.size + 1, k * 16 + (D + k), none⟩ (.int .u8 1)).frozen? ⟨w.heap.size + 1, 129, none⟩ = false := (ck_one hC2 k (D + k) 1 (by omega) (by omega)).frozen 129; have HC2 := hide hC2; have HB2 := hide hb2; clear hC2 hb2)
      have hC2 := HC2.out
      have hb2 := HB2.out
      have hC3 := ck_one hC2 k (D + k) 1 (by omega) (by omega)
      have hC4 := count_set hC3 (k + 1)
      have hZ2 := HZ.out.keep (hb2.block w.heap.size (by omega))
      have e4 : (⟨(⟨fun r j => if r = k ∧ j = D + k then 1 else cpF (ck0 (mf M) D k).m k row r j, (ck0 (mf M) D k).told, (ck0 (mf M) D k).count⟩ : Ck).m, (ck0 (mf M) D k).told, k + 1⟩ : Ck) = ck0 (mf M) D (k + 1) := HNX.out
      have hC5 : CkAt ((w2.setCell ⟨w.heap.size + 1, k * 16 + (D + k), none⟩ (.int .u8 1)).setCell ⟨w.heap.size + 1, 129, none⟩ (.int .i64 ((k + 1 : Nat) : Int))) (w.heap.size + 1) (ck0 (mf M) D (k + 1)) := by rw [← e4]; exact hC4
      have hZ5 : CkAt ((w2.setCell ⟨w.heap.size + 1, k * 16 + (D + k), none⟩ (.int .u8 1)).setCell ⟨w.heap.size + 1, 129, none⟩ (.int .i64 ((k + 1 : Nat) : Int))) w.heap.size ckZ :=
        hZ2.keep ((Below.heap_setCell _ _ _ _ (by show w.heap.size ≠ w.heap.size + 1; omega)).trans (Below.heap_setCell _ _ _ _ (by show w.heap.size ≠ w.heap.size + 1; omega)))
      have hB5 : Below w.heap.size w ((w2.setCell ⟨w.heap.size + 1, k * 16 + (D + k), none⟩ (.int .u8 1)).setCell ⟨w.heap.size + 1, 129, none⟩ (.int .i64 ((k + 1 : Nat) : Int))) :=
        ((HBL.out.trans (hb2.mono (by omega))).setCell (p := ⟨w.heap.size + 1, k * 16 + (D + k), none⟩) (by show w.heap.size ≤ w.heap.size + 1; omega) _).setCell (p := ⟨w.heap.size + 1, 129, none⟩) (by show w.heap.size ≤ w.heap.size + 1; omega) _
      have HH := hide (And.intro hC5 (And.intro hZ5 hB5))
      go_roundw
      case rel => exact ⟨k + 1, by omega, by go_num, HH.out.1, HH.out.2.1, HH.out.2.2⟩
      case measure => simp [intOf]; omega
    · have hki : ¬ (k : Int) < ((M.length - D : Nat) : Int) := by omega
      have hkk : M.length - D = k := by omega
      have HKK := hide hkk
      have HB := hide hb
      have HCC := hide hC
      have HZ := hide hZ
      clear hkk
      go_wp2_with (first
        | refine wpList_load_row rfl 68 (.tmp 5) rfl (w.heap.size + 1) rfl 68 (ckA (ck0 (mf M) D k)) (0, 0) _ HCC.out.heap Tryd.underlying68 rfl (ckA_info _) ?_
        | refine wpList_store_row rfl 68 (.tmp 4) (.tmp 35) rfl w.heap.size (ckA (ck0 (mf M) D k)) rfl rfl 68 (ckA ckZ) HZ.out.heap (ckA_info _) (by rw [ckA_size, ckA_size]) (ckA_one _) ?_)
      refine bodyPost_ret (v := .agg (ckA (ck0 (mf M) D k))) (results_cell_row Tryd.results38 _ _ w.heap.size 68 (ckA (ck0 (mf M) D k)) (0, 0) _ rfl (HZ.out.setRow (ck0 (mf M) D k)).heap Tryd.underlying68 rfl (ckA_info _)) rfl ?_
      rw [HKK.out]
      exact ⟨rfl, HB.out.grown (grown_setRow _ _ _) HB.out.size (fun q e => by cases e; exact Nat.le_refl _)⟩
end Go.Proofs.YthhommjlomphdabDoor
/-
  The sets of Compile, and its code, in plain numbers.
-/
namespace Go.Proofs.YthhommjlomphdabDoor
open Go.RowKit Go.Deep Gf

/-- the lost ones of n shards; the others -/
def goneN (n lost : Nat) : Nat := lost &&& (2 ^ n - 1)
def keptN (n lost : Nat) : Nat := (2 ^ n - 1) &&& (18446744073709551615 - goneN n lost)
theorem pow16 {n : Nat} (h : n ≤ 16) : 2 ^ n ≤ 65536 := Nat.pow_le_pow_right (n := 2) (i := n) (j := 16) (by decide) h
theorem goneN_bit (n lost i : Nat) : (goneN n lost).testBit i = (lost.testBit i && decide (i < n)) := by unfold goneN; rw [Nat.testBit_and, Nat.testBit_two_pow_sub_one]
theorem goneN_lt {n : Nat} (lost : Nat) (h : n ≤ 16) : goneN n lost < 65536 := by
  have h1 := pow16 h
  have h2 : goneN n lost ≤ 2 ^ n - 1 := Nat.and_le_right
  have h3 : 0 < 2 ^ n := Nat.two_pow_pos n
  omega
theorem keptN_lt {n : Nat} (lost : Nat) (h : n ≤ 16) : keptN n lost < 65536 := by
  have h1 := pow16 h
  have h2 : keptN n lost ≤ 2 ^ n - 1 := Nat.and_le_left
  have h3 : 0 < 2 ^ n := Nat.two_pow_pos n
  omega
theorem keptN_bit {n : Nat} (lost i : Nat) (h : n ≤ 16) : (keptN n lost).testBit i = (decide (i < n) && !lost.testBit i) := by
  have hg := goneN_lt lost h
  unfold keptN
  rw [Nat.testBit_and, Nat.testBit_two_pow_sub_one, show 18446744073709551615 - goneN n lost = 2 ^ 64 - (goneN n lost + 1) by omega, Nat.testBit_two_pow_sub_succ (by omega), goneN_bit]
  by_cases hi : i < n
  · simp [hi, show i < 64 by omega]
  · simp [hi]
theorem mem_gone {n lost i : Nat} (h : n ≤ 16) : i ∈ mems (goneN n lost) ↔ i < n ∧ lost.testBit i = true := by
  rw [mem_mems, goneN_bit]
  simp only [Bool.and_eq_true, decide_eq_true_eq]
  constructor
  · rintro ⟨_, h1, h2⟩; exact ⟨h2, h1⟩
  · rintro ⟨h1, h2⟩; exact ⟨by omega, h2, h1⟩
theorem mem_kept {n lost i : Nat} (h : n ≤ 16) : i ∈ mems (keptN n lost) ↔ i < n ∧ lost.testBit i = false := by
  rw [mem_mems, keptN_bit lost i h]
  simp only [Bool.and_eq_true, decide_eq_true_eq, Bool.not_eq_true']
  constructor
  · rintro ⟨_, h1, h2⟩; exact ⟨h1, h2⟩
  · rintro ⟨h1, h2⟩; exact ⟨by omega, h1, h2⟩
theorem mems_nodup (s : Nat) : (mems s).Nodup := List.Pairwise.filter _ List.nodup_range
theorem mat_open {w : World} {B D : Nat} {v : Value} {T : List (Nat × Nat × List Nat)} {M : List (List Nat)} (h : Tab w B v T) (hH : Holds T D M) (hD : ∀ r ∈ M, r.length = D) (hM : M ≠ []) :
    ∃ g c, v = .slice (some ⟨g, 0, none⟩) M.length c ∧ M.length ≤ c ∧ ∀ i (hi : i < M.length), ∃ u, w.cell? ⟨g, 0 + i, none⟩ = some u ∧ Bs w u M[i] := by
  have hlen : T.length = M.length := by simpa using congrArg List.length hH
  rcases h.own.2 with ⟨_, h0⟩ | ⟨g, c, cur, rfl, _, _, hc, _⟩
  · exact absurd (List.eq_nil_of_length_eq_zero (by omega)) hM
  · refine ⟨g, c, by rw [hlen], by omega, fun i hi => ?_⟩
    have hiT : i < T.length := by omega
    refine ⟨hdr T[i], by rw [Nat.zero_add]; exact h.cell_at hiT, ?_⟩
    have := h.row_at hiT
    have hat : T[i].2 = (D, M[i]) := by
      have := congrArg (fun l => l[i]?) hH
      simpa [hiT, hi] using this
    rw [hat] at this
    have e : (M[i]).take D = M[i] := by rw [← hD _ (List.getElem_mem hi), List.take_length]
    rw [e] at this
    exact this
theorem mat_get (D L G i : Nat) (hi : i < D) : (matL D L G).getD i [] = dataL D i := by
  unfold matL
  rw [List.append_assoc, List.getD_eq_getElem?_getD, List.getElem?_append_left (by simpa using hi)]
  simp [hi]
theorem mat_code (D L G : Nat) (hD : D ≤ 12) (hG : G ≤ 4) : Gf.Code (mf (matL D L G)) D (L + G) := by
  refine ⟨fun i j => ?_, fun i hi j => ?_, fun i j hj => ?_⟩
  · unfold mf
    by_cases hi : i < (matL D L G).length
    · have e : (matL D L G).getD i [] = (matL D L G)[i] := by simp [hi]
      rw [e]
      exact getD_lt (mat_byte D L G hD hG _ (List.getElem_mem hi)) j
    · have e : (matL D L G).getD i [] = [] := by simp [hi]
      rw [e]; simp
  · unfold mf
    rw [mat_get D L G i hi]
    unfold dataL
    rw [List.getD_eq_getElem?_getD, List.getElem?_set]
    by_cases e : i = j
    · subst e; simp [hi]
    · simp only [e, if_false]
      rw [if_neg (fun h => e h.symm)]
      by_cases hj : j < D
      · simp [hj]
      · simp [hj]
  · unfold mf
    by_cases hi : i < (matL D L G).length
    · have e : (matL D L G).getD i [] = (matL D L G)[i] := by simp [hi]
      have hl := mat_row D L G _ (List.getElem_mem hi)
      rw [e, List.getD_eq_getElem?_getD, List.getElem?_eq_none (by omega)]; rfl
    · have e : (matL D L G).getD i [] = [] := by simp [hi]
      rw [e]; simp
/-- the checks at the start -/
def cks (D L G : Nat) : Ck := ck0 (mf (matL D L G)) D (L + G)
theorem cks_fit {D L G : Nat} (hD : D ≤ 12) (hL : L ≤ 4) (hG : G ≤ 4) {pre : List Nat} {C : Ck} (h : tells (cks D L G) pre = some C) : CkFit C := by
  rcases (mat_code D L G hD hG).told pre with ⟨C', h1, h2⟩ | ⟨h1, _⟩
  · have e : tells (cks D L G) pre = some C' := h1
    rw [h] at e
    obtain rfl := Option.some.inj e
    exact ⟨h2.byt, h2.le, by have : C.count = L + G := h2.count; omega⟩
  · have e : tells (cks D L G) pre = none := h1
    rw [h] at e; cases e
end Go.Proofs.YthhommjlomphdabDoor
/-
  Programs: steps wherever they lie; whether they can be run: the program's word.
-/
namespace Go.Proofs.YthhommjlomphdabDoor
open Go.RowKit Go.Deep

theorem ret_b {a b : Bool} (h : a = b) : Ending.returned (.bool a) = .returned (.bool b) := by rw [h]
structure St where
  k : Nat
  a : Int
  b : Int
  c : Nat
/-- a step's cells; its kind is of one kind of number or another -/
def stc (kk : IntKind) (s : St) : List Value := [.int kk s.k, .int .i64 s.a, .int .i64 s.b, .int .u8 s.c]
def okInts (s : St) : Prop := s.k < 256 ∧ -9223372036854775808 ≤ s.a ∧ s.a ≤ 9223372036854775807 ∧ -9223372036854775808 ≤ s.b ∧ s.b ≤ 9223372036854775807 ∧ s.c < 256
/-- the steps, wherever they lie -/
def Ps (kk : IntKind) (w : World) (v : Value) (P : List St) : Prop :=
  ∃ ao c, v = .slice ao P.length c ∧ P.length ≤ 4398046511104 ∧ (P ≠ [] → ∃ b off, ao = some ⟨b, off, none⟩ ∧ ∀ i (hi : i < P.length),
    w.cell? ⟨b, off + i * 4, none⟩ = some (.int kk P[i].k) ∧ w.cell? ⟨b, off + i * 4 + 1, none⟩ = some (.int .i64 P[i].a) ∧ w.cell? ⟨b, off + i * 4 + 2, none⟩ = some (.int .i64 P[i].b) ∧ w.cell? ⟨b, off + i * 4 + 3, none⟩ = some (.int .u8 P[i].c))
theorem Ps.mono {kk : IntKind} {w w' : World} {v : Value} {P : List St} (h : Ps kk w v P) (hb : Below w.heap.size w w') : Ps kk w' v P := by
  obtain ⟨ao, c, h1, h2, h3⟩ := h
  refine ⟨ao, c, h1, h2, fun hP => ?_⟩
  obtain ⟨b, off, e, hc⟩ := h3 hP
  refine ⟨b, off, e, fun i hi => ?_⟩
  obtain ⟨c0, c1, c2, c3⟩ := hc i hi
  exact ⟨by rw [hb.cell (block_lt_of_cell c0)]; exact c0, by rw [hb.cell (block_lt_of_cell c1)]; exact c1, by rw [hb.cell (block_lt_of_cell c2)]; exact c2, by rw [hb.cell (block_lt_of_cell c3)]; exact c3⟩
theorem Ps.cases {kk : IntKind} {w : World} {v : Value} {P : List St} (h : Ps kk w v P) : (P = [] ∧ ∃ ao c, v = .slice ao 0 c) ∨ ∃ b off c, v = .slice (some ⟨b, off, none⟩) P.length c ∧ P.length ≤ 4398046511104 ∧ ∀ i (hi : i < P.length),
    w.cell? ⟨b, off + i * 4, none⟩ = some (.int kk P[i].k) ∧ w.cell? ⟨b, off + i * 4 + 1, none⟩ = some (.int .i64 P[i].a) ∧ w.cell? ⟨b, off + i * 4 + 2, none⟩ = some (.int .i64 P[i].b) ∧ w.cell? ⟨b, off + i * 4 + 3, none⟩ = some (.int .u8 P[i].c) := by
  obtain ⟨ao, c, h1, h2, h3⟩ := h
  by_cases hP : P = []
  · subst hP; exact .inl ⟨rfl, ao, c, h1⟩
  · obtain ⟨b, off, rfl, hc⟩ := h3 hP
    exact .inr ⟨b, off, c, h1, h2, hc⟩
theorem Ps.slice {kk : IntKind} {w : World} {v : Value} {P : List St} (h : Ps kk w v P) : ∃ ao c, v = .slice ao P.length c := by
  obtain ⟨ao, c, h1, _⟩ := h
  exact ⟨ao, c, h1⟩
def okStep (s : St) (regs shards : Int) : Prop := (s.k = 0 ∨ s.k = 2) ∧ 0 ≤ s.a ∧ s.a < regs ∧ 0 ≤ s.b ∧ s.b < shards ∨ s.k = 1 ∧ 0 ≤ s.a ∧ s.a < regs ∧ 0 ≤ s.b ∧ s.b < regs ∧ s.a ≠ s.b
def okHead (regs : Int) (P : List St) : Prop := 0 ≤ regs ∧ regs ≤ 32 ∧ P.length ≤ 2000
def okProg (regs : Int) (P : List St) (shards : Int) : Prop := okHead regs P ∧ ∀ i (hi : i < P.length), okStep P[i] regs shards
/-- a word: yes if and only if -/
def BIs (p : Prop) (w : World) (r : Ending) (w' : World) : Prop := ∃ b : Bool, r = .returned (.bool b) ∧ (b = true ↔ p) ∧ Below w.heap.size w w'
def BIs0 (p : Prop) (w : World) (r : Ending) (w' : World) : Prop := ∃ b : Bool, r = .returned (.bool b) ∧ (b = true ↔ p) ∧ w' = w
def inB (n e : Int) : Prop := 0 ≤ n ∧ n < e

set_option maxRecDepth 100000 in
theorem within_any (n e : Int) (w : World) :
    Calls Tryd.prog 48 #[.int .i64 n, .int .i64 e] w fun r w' => BIs0 (inB n e) w r w' := by
  by_cases h1 : 0 ≤ n
  · go_enter Tryd.func48, Tryd.ntmps48
    go_wp2
    go_ret
    exact ⟨_, rfl, by unfold inB; simp [h1], rfl⟩
  · go_enter Tryd.func48, Tryd.ntmps48
    go_wp2
    go_ret
    exact ⟨_, rfl, by unfold inB; simp; omega, rfl⟩
theorem within_yes (n e : Int) (h : inB n e) (w : World) :
    Calls Tryd.prog 48 #[.int .i64 n, .int .i64 e] w fun r w' => r = .returned (.bool true) ∧ w' = w := by
  refine (within_any n e w).mono ?_
  rintro r w' ⟨b, rfl, hb, rfl⟩
  exact ⟨by rw [hb.2 h], rfl⟩
theorem within_no (n e : Int) (h : ¬ inB n e) (w : World) :
    Calls Tryd.prog 48 #[.int .i64 n, .int .i64 e] w fun r w' => r = .returned (.bool false) ∧ w' = w := by
  refine (within_any n e w).mono ?_
  rintro r w' ⟨b, rfl, hb, rfl⟩
  cases b
  · exact ⟨rfl, rfl⟩
  · exact absurd (hb.1 rfl) h
set_option maxRecDepth 100000 in
set_option maxHeartbeats 1000000 in
theorem bounded_any (regs : Int) (v : Value) (P : List St) (w : World) (h : Ps .u8 w v P) :
    Calls Tryd.prog 35 #[.agg #[.int .i64 regs, v]] w fun r w' => BIs (okHead regs P) w r w' := by
  obtain ⟨ao, c, rfl⟩ := h.slice
  clear h
  have hb : Below w.heap.size w (w.alloc (.cells #[.int .i64 regs, .slice ao P.length c] 27)) := (Below.refl _ _).alloc (Nat.le_refl _) _
  by_cases h1 : inB regs 33
  · have HW := hide h1
    clear h1
    go_enter Tryd.func35, Tryd.ntmps35
    go_wp2_with (go_at_call 48; refine (within_yes _ _ HW.out _).mono ?_; rintro e w' ⟨rfl, rfl⟩)
    go_ret
    refine ⟨_, rfl, ?_, hb⟩
    have := HW.out
    unfold inB at this
    unfold okHead
    simp
    omega
  · have HW := hide h1
    clear h1
    go_enter Tryd.func35, Tryd.ntmps35
    go_wp2_with (go_at_call 48; refine (within_no _ _ HW.out _).mono ?_; rintro e w' ⟨rfl, rfl⟩)
    go_ret
    refine ⟨_, rfl, ?_, hb⟩
    have := HW.out
    unfold inB at this
    unfold okHead
    simp
    omega
set_option maxRecDepth 100000 in
set_option maxHeartbeats 2000000 in
theorem pfits_any (s : St) (regs shards : Int) (w : World) :
    Calls Tryd.prog 36 #[.agg #[.int .u8 s.k, .int .i64 s.a, .int .i64 s.b, .int .u8 s.c], .int .i64 regs, .int .i64 shards] w fun r w' => BIs (okStep s regs shards) w r w' := by
  obtain ⟨k, a, b, c⟩ := s
  have hb : Below w.heap.size w (w.alloc (.cells #[.int .u8 k, .int .i64 a, .int .i64 b, .int .u8 c] 50)) := (Below.refl _ _).alloc (Nat.le_refl _) _
  by_cases k0 : k = 0 ∨ k = 2
  · by_cases ha : inB a regs
    · by_cases hB : inB b shards
      · have HA := hide ha
        have HB := hide hB
        clear ha hB
        rcases k0 with rfl | rfl
        all_goals
          go_enter Tryd.func36, Tryd.ntmps36
          go_wp2_with fail
          refine (within_yes _ _ HA.out _).mono ?_
          rintro e w' ⟨rfl, rfl⟩
          go_wp2_with fail
          refine (within_yes _ _ HB.out _).mono ?_
          rintro e w' ⟨rfl, rfl⟩
          go_wp2
          go_ret
          refine ⟨_, rfl, ?_, hb⟩
          have := HA.out
          have := HB.out
          unfold inB at *
          unfold okStep
          simp
          omega
      · have HA := hide ha
        have HB := hide hB
        clear ha hB
        rcases k0 with rfl | rfl
        all_goals
          go_enter Tryd.func36, Tryd.ntmps36
          go_wp2_with fail
          refine (within_yes _ _ HA.out _).mono ?_
          rintro e w' ⟨rfl, rfl⟩
          go_wp2_with fail
          refine (within_no _ _ HB.out _).mono ?_
          rintro e w' ⟨rfl, rfl⟩
          go_wp2
          go_ret
          refine ⟨_, rfl, ?_, hb⟩
          have := HA.out
          have := HB.out
          unfold inB at *
          unfold okStep
          simp
          omega
    · have HA := hide ha
      clear ha
      rcases k0 with rfl | rfl
      all_goals
        go_enter Tryd.func36, Tryd.ntmps36
        go_wp2_with (go_at_call 48; refine (within_no _ _ HA.out _).mono ?_; rintro e w' ⟨rfl, rfl⟩)
        go_ret
        refine ⟨_, rfl, ?_, hb⟩
        have := HA.out
        unfold inB at *
        unfold okStep
        simp
        omega
  · by_cases k1 : k = 1
    · subst k1
      clear k0
      by_cases ha : inB a regs
      · by_cases hB : inB b regs
        · have HA := hide ha
          have HB := hide hB
          clear ha hB
          go_enter Tryd.func36, Tryd.ntmps36
          go_wp2_with fail
          refine (within_yes _ _ HA.out _).mono ?_
          rintro e w' ⟨rfl, rfl⟩
          go_wp2_with fail
          refine (within_yes _ _ HB.out _).mono ?_
          rintro e w' ⟨rfl, rfl⟩
          go_wp2
          go_ret
          refine ⟨_, rfl, ?_, hb⟩
          have := HA.out
          have := HB.out
          unfold inB at *
          unfold okStep
          simp
          omega
        · have HA := hide ha
          have HB := hide hB
          clear ha hB
          go_enter Tryd.func36, Tryd.ntmps36
          go_wp2_with fail
          refine (within_yes _ _ HA.out _).mono ?_
          rintro e w' ⟨rfl, rfl⟩
          go_wp2_with fail
          refine (within_no _ _ HB.out _).mono ?_
          rintro e w' ⟨rfl, rfl⟩
          go_wp2
          go_ret
          refine ⟨_, rfl, ?_, hb⟩
          have := HA.out
          have := HB.out
          unfold inB at *
          unfold okStep
          simp
          omega
      · have HA := hide ha
        clear ha
        go_enter Tryd.func36, Tryd.ntmps36
        go_wp2_with (go_at_call 48; refine (within_no _ _ HA.out _).mono ?_; rintro e w' ⟨rfl, rfl⟩)
        go_ret
        refine ⟨_, rfl, ?_, hb⟩
        have := HA.out
        unfold inB at *
        unfold okStep
        simp
        omega
    · have e0 : ((k : Int) == 0) = false := by rw [beq_eq_false_iff_ne]; omega
      have e1 : ((k : Int) == 1) = false := by rw [beq_eq_false_iff_ne]; omega
      have e2 : ((k : Int) == 2) = false := by rw [beq_eq_false_iff_ne]; omega
      have K0 := hide k0
      have K1 := hide k1
      clear k0 k1
      go_enter Tryd.func36, Tryd.ntmps36
      go_wp2
      go_ret
      refine ⟨_, rfl, ?_, hb⟩
      have := K0.out
      have := K1.out
      unfold okStep
      simp
      omega
end Go.Proofs.YthhommjlomphdabDoor
