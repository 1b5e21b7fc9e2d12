import Derived.Test.YtpaemkanfnddoaaGreatDoorM20
import Derived.BigRegion
set_option maxRecDepth 100000
set_option maxHeartbeats 8000000
namespace Go.Proofs.YtpaemkanfnddoaaGreatDoor
open Gf
variable {K : List (List Nat)} {T : List (Nat × Nat × List Nat)} {l : List Nat} {base g N b n : Nat} {v u : Value} {w w0 : World}
section
open Go.RowKit Go.Deep
def encL (M : List (List Nat)) (D : List (List Nat)) (n : Nat) : List (List Nat) := M.map fun row => combTo row D n D.length
theorem wpList_mkRows (w : World) {ops : Array Oper} {rest : List Oper} {o : Oper} {a : Act} {Q : Exit → Act → World → Prop}
 (hg : o.guard = none) (l c : Operand) (h1 : o.op = Op.makeSlice 153 l c) (C : Int) (n : Nat) (hl : a.eval l = .int .i64 C) (hc : a.eval c = .int .i64 C) (hC : C = (n : Int)) (hn : n ≤ 1000000)
 (hK : ∀ w', w'.rowIs w.heap.size 31 n (fun _ => .slice none 0 0) → Below w.heap.size w w' → w'.heap.size = w.heap.size + 1 → wpList Tryz.prog ops Q rest (a.put o.dst (.slice (some ⟨w.heap.size, 0, none⟩) n n)) w') :
 wpList Tryz.prog ops Q (o :: rest) a w := by
 refine wpList_plain hg fun K h2 => ?_
 have h0 := run_make_row' (P := Tryz.prog) 153 31 (.slice none 0 0) 24 Tryz.underlying153 Tryz.infoBytes rfl .i64 .i64 n (by omega) (by omega) w
 subst hC
 unfold Oper.wp
 simp [execOp, h1, hl, hc, h0, Result.andThen]
 exact h2 _ _ (hK _ (World.rowIs_made w _ n _) ((Below.refl _ _).alloc (Nat.le_refl _) _) (nblk_alloc _ _))
def shv (T : List (Nat × Nat × List Nat)) (i : Nat) : Value := if i < T.length then hdr (T.getD i (0, 0, [])) else .slice none 0 0
structure Part (w : World) (base g N : Nat) (T : List (Nat × Nat × List Nat)) : Prop where
 tab : w.rowIs g 31 N (shv T)
 row : ∀ p ∈ T, base ≤ p.1 ∧ Brow w p.1 p.2.2 ∧ p.2.1 ≤ p.2.2.length ∧ (p.2.1 ≤ 140737488355328 ∧ p.2.2.length ≤ 9223372036854775807) ∧ ∀ x ∈ p.2.2, x < 256
 nodup : (T.map (fun p => p.1)).Nodup
theorem Part.below {w' : World} (h : Part w base g N T) (hb : Below w.heap.size w w') : Part w' base g N T :=
 ⟨h.tab.of_block (hb.block g h.tab.lt), fun p hp => by obtain ⟨a, b, c⟩ := h.row p hp; exact ⟨a, b.below hb, c⟩, h.nodup⟩
theorem Part.push (h : Part w base g N T) (hb : base ≤ b) (hB : Brow w b l) (hn : n ≤ l.length) (hl : l.length ≤ 140737488355328) (hx : ∀ x ∈ l, x < 256) (h1 : ∀ p ∈ T, p.1 ≠ b) :
 Part (w.setCell ⟨g, T.length, none⟩ (.slice (some ⟨b, 0, none⟩) n l.length)) base g N (T ++ [(b, n, l)]) := by
 have h0 : ∀ c m, Brow w c m → c ≠ g := by
  intro c m hc e
  obtain ⟨x, hx, _⟩ := hc
  obtain ⟨y, hy, _⟩ := h.tab
  rw [e, hy] at hx
  simp at hx
 refine ⟨?_, fun p hp => ?_, ?_⟩
 · refine (h.tab.set T.length (.slice (some ⟨b, 0, none⟩) n l.length)).congr fun i hi => ?_
   unfold shv
   by_cases e : i = T.length
   · subst e; simp [hdr]
   · rw [if_neg e]
     by_cases e2 : i < T.length
     · rw [if_pos e2, if_pos (by simp; omega)]
       simp [List.getElem?_append_left e2]
     · rw [if_neg e2, if_neg (by simp; omega)]
 · rcases List.mem_append.1 hp with hp | hp
   · obtain ⟨a1, a2, a3⟩ := h.row p hp
     exact ⟨a1, a2.other (h0 _ _ a2) _, a3⟩
   · simp at hp; subst hp
     exact ⟨hb, hB.other (h0 _ _ hB) _, hn, ⟨by show n ≤ 140737488355328; omega, by show l.length ≤ 9223372036854775807; omega⟩, hx⟩
 · rw [List.map_append, List.nodup_append]
   refine ⟨h.nodup, by simp, ?_⟩
   intro a ha c hc
   obtain ⟨q, hq, rfl⟩ := List.mem_map.1 ha
   simp at hc
   subst hc
   exact h1 q hq
theorem Part.done (h : Part w base g N T) (hN : N = T.length) (hg : base ≤ g) (hm : N ≤ maxLen) : Tab w base (.slice (some ⟨g, 0, none⟩) N N) T := by
 subst hN
 refine ⟨⟨by simp, .inr ?_⟩, h.row, h.nodup⟩
 obtain ⟨c, hc, hs, hv⟩ := h.tab
 refine ⟨g, T.length, c, rfl, hg, hc, Nat.le_refl _, hm, by omega, ?_⟩
 apply List.ext_getElem
 · simp; omega
 · intro i h1 h2
   simp at h1 h2
   have := hv i h2
   rw [Array.getElem?_eq_getElem (by omega)] at this
   simp at this
   simp [this, shv, h2]
theorem Part.lt (h : Part w base g N T) : g < w.heap.size := h.tab.lt
def EcR (w : World) (B g N n : Nat) (M D : List (List Nat)) (i : Value) (wr : World) : Prop :=
 ∃ k T, k ≤ N ∧ i = .int .i64 (k : Nat) ∧ Part wr B g N T ∧ Holds T n (encL (M.take k) D n) ∧ Below B w wr ∧ B ≤ wr.heap.size
def EnPost (w : World) (n : Nat) (M D : List (List Nat)) (x : Value) (e : Ending) (w' : World) : Prop := ∃ v T, e = .returned (.tuple #[v, x]) ∧ Tab w' w.heap.size v T ∧ Holds T n (encL M D n) ∧ Below w.heap.size w w'
theorem Holds.at {D : Nat} {M : List (List Nat)} (h : Holds T D M) {i : Nat} (h1 : i < T.length) (h2 : i < M.length) : T[i].2 = (D, M[i]) := by
 have := List.getElem_of_eq h (i := i) (by simpa using h1)
 simpa using this
theorem matL_len (D L G : Nat) : (matL D L G).length = D + L + G := by simp [matL]; omega
theorem matL_row (D L G : Nat) {i : Nat} (hi : i < (matL D L G).length) : ((matL D L G)[i]).length = D := by
 have hm : (matL D L G)[i] ∈ matL D L G := List.getElem_mem hi
 unfold matL at hm
 rcases List.mem_append.1 hm with hm | hm
 · rcases List.mem_append.1 hm with hm | hm
   · obtain ⟨j, _, e⟩ := List.mem_map.1 hm
     unfold matL
     rw [← e]; simp [dataL]
   · obtain ⟨j, _, e⟩ := List.mem_map.1 hm
     unfold matL
     rw [← e]; simp [localL]
 · obtain ⟨j, _, e⟩ := List.mem_map.1 hm
   unfold matL
   rw [← e]; simp [globalL]
theorem encL_snoc (M D : List (List Nat)) (n k : Nat) (hk : k < M.length) : encL (M.take (k + 1)) D n = encL (M.take k) D n ++ [combTo M[k] D n D.length] := by
 unfold encL
 rw [List.take_succ_eq_append_getElem hk, List.map_append]; rfl
theorem encode_fit (D L G : Nat) (hr : rightB D L G = true) (qd : 1 ≤ D) (hD : D ≤ 12) (hL : 1 ≤ L) (ks : L ≤ 4) (hG : G ≤ 4) (hy : D % L = 0) (vd : Value) (Dt : List (List Nat)) (w : World) (hd : Rd w vd Dt) (h7 : Dt.length = D) (h3 : Fit Dt) :
 Calls Tryz.prog 152 #[.agg #[.int .i64 D, .int .i64 L, .int .i64 G], vd] w fun e w' => EnPost w (Dt.getD 0 []).length (matL D L G) Dt .nilIface e w' := by
 have qe : (((Dt.length : Nat) : Int) != (D : Int)) = false := by rw [h7]; simp
 have h8 : 0 < Dt.length := by omega
 obtain ⟨ao, c, rfl, hl, kv⟩ := id hd
 have kx : (Dt.getD 0 []).length ≤ 4096 := by
  have := (h3 0 h8)
  have h2 := this.2
  rw [this.1] at h2
  exact h2
 have he : ∀ i (hi : i < Dt.length), (Dt[i]).length = (Dt.getD 0 []).length := fun i hi => (h3 i hi).1
 generalize hn : (Dt.getD 0 []).length = n at *
 have k0 := hide he
 have HF := hide h3
 have k5 := hide h7
 clear kv hn he h3 h7
 go_enter Tryz.func152, Tryz.ntmps152
 go_wp2_with fail
 refine (matrix_right D L G hr hD hL ks hG hy _).mono ?_
 rintro e wa ⟨v, T, rfl, hT, hH, hj⟩
 rw [nblk_alloc] at hT hj
 have ky := hj.size
 rw [nblk_alloc] at ky
 obtain ⟨p0, p1, p2⟩ := box_cells hj
 have h4 : Below w.heap.size w wa := ((Below.refl _ _).alloc (Nat.le_refl _) _).trans (hj.mono (by omega))
 have kc := hd.mono h4
 go_wp2_with fail
 refine (even_any _ Dt _ kc h8).mono ?_
 rintro e wb ⟨r, rfl, kd, rfl⟩
 obtain rfl : r = true := kd.2 HF.out
 obtain ⟨mo, mcap, rfl, ke⟩ := hT.slice
 have hf := hH.length
 rw [matL_len] at hf
 obtain ⟨mg, rfl⟩ := ke (by intro e; rw [e] at hf; simp at hf; omega)
 have kz : T.length ≤ 20 := by omega
 have qf := hide hf
 clear hf ke kd
 go_wp2_with (at_make; refine wpList_mkRows _ rfl (.tmp 31) (.tmp 31) rfl _ T.length rfl rfl rfl (by omega) ?_; intro wc hg k6 hz; clear hz)
 have kf : Part wc wb.heap.size wb.heap.size T.length [] := ⟨hg.congr (fun i _ => by simp [shv]), fun p hp => by simp at hp, by simp⟩
 have kg := k6.size
 generalize hM : matL D L G = M at *
 have HM : Hid (∀ i (hi : i < M.length), (M[i]).length = D) := by intro i hi; subst hM; exact matL_row D L G hi
 have HH := hide hH
 have q0 := hide hM
 clear hg hM hH p0 p1 p2
 go_loopw [35] (fun i wr => EcR wb wb.heap.size wb.heap.size T.length n M Dt i wr) (fun i _ => T.length - (intOf i).toNat)
 case atStart => exact ⟨0, [], Nat.zero_le _, rfl, kf, rfl, k6, kg⟩
 case round =>
  clear kf k6 kg
  rename World => wo
  obtain ⟨k, S, hk, rfl, hP, ha, hc, q1⟩ := hrel
  have h5 := HH.out.length
  have hm := ha.length
  unfold encL at hm
  rw [List.length_map, List.length_take] at hm
  by_cases hh : k < T.length
  · have h9 : k < M.length := by omega
    have k7 := hT.below hc
    have kh := kc.mono hc
    have hq := k7.cell_at hh
    have h0 := k7.row_at hh
    have k8 := HH.out.at hh h9
    have k9 := HM.out k h9
    obtain ⟨⟨rb, rn, rl⟩, ki⟩ : ∃ p, p = T[k] := ⟨_, rfl⟩
    rw [← ki] at hq h0 k8
    simp only [hdr, Prod.mk.injEq] at hq h0 k8
    obtain ⟨rfl, rfl⟩ := k8
    rw [List.take_of_length_le (by omega)] at h0
    rw [k9] at hq h0
    have kj : S.length = k := by omega
    have q2 := hP.tab.cell (i := k) hh
    have q3 := hP.tab.frozen k
    have h6 := encL_snoc M Dt n k h9
    have kk := hide h6
    have km := hide ha
    have q4 := hide kj
    have ka := hide k9
    clear h6 ha kj k9 h5 hm ki
    go_wp2_with fail
    refine (combine_any _ _ M[k] Dt n wo (by rw [ka.out] at *; exact h0) kh kx k0.out (by rw [ka.out, k5.out]) h8).mono ?_
    rintro e w2 ⟨b2, rfl, qg, kn, h1⟩
    have hs := hP.below h1
    have q5 := hs.tab.cell (i := k) hh
    have q6 := hs.tab.frozen k
    have qh := h1.size
    have qi := hP.lt
    have ko := hs.push (n := n) (by omega) kn (by rw [combTo_len]; omega) (by rw [combTo_len]; omega) (combTo_lt _ _ (fun x hx => h0.lt x hx) _ _) (fun p hp => by have := (hP.row p hp).2.1.lt; omega)
    rw [combTo_len, q4.out] at ko
    have q7 := (hc.trans (h1.mono q1)).setCell (p := ⟨wb.heap.size, k, none⟩) (Nat.le_refl _) (.slice (some ⟨b2, 0, none⟩) n n)
    have kb := km.out.push b2 (combTo M[k] Dt n Dt.length)
    rw [← kk.out] at kb
    have q8 := hide kb
    generalize shv S k = ov at *
    clear hP hs kn h1 hc h0 hq k7 kh kb q2 q3 kk km ka
    go_wp2
    go_roundw
    case rel => exact ⟨k + 1, _, by omega, by go_num, ko, q8.out, q7, by rw [nblk_setCell]; omega⟩
    case measure => simp [intOf]; omega
  · have q9 : k = T.length := by omega
    have kp : k = M.length := by omega
    have qa : Holds S n (encL M Dt n) := by rw [kp, List.take_length] at ha; exact ha
    have kr := hP.done (by omega) (Nat.le_refl _) (by unfold maxLen; omega)
    have qb := h4.trans (hc.mono h4.size)
    have qc := kr.weaken (base' := w.heap.size) h4.size
    clear ha hP hc kr q9 kp h5 hm
    go_wp2
    go_ret2
    exact ⟨_, S, rfl, qc, by rw [q0.out]; exact qa, qb⟩
end
def keepTo (M : List (List Nat)) (lost k : Nat) : List (List Nat) := ((List.range k).filter (fun i => decide (lost / 2 ^ i % 2 = 0))).map (fun i => M.getD i [])
theorem keep_in (M : List (List Nat)) (lost k : Nat) (h : lost / 2 ^ k % 2 = 0) : keepTo M lost (k + 1) = keepTo M lost k ++ [M.getD k []] := by
 simp [keepTo, List.range_succ, h]
theorem keep_out (M : List (List Nat)) (lost k : Nat) (h : lost / 2 ^ k % 2 ≠ 0) : keepTo M lost (k + 1) = keepTo M lost k := by
 simp [keepTo, List.range_succ, h]
theorem keep_mem (M : List (List Nat)) (lost k : Nat) (hk : k ≤ M.length) : ∀ l ∈ keepTo M lost k, l ∈ M := by
 intro l hl
 simp [keepTo] at hl
 obtain ⟨i, ⟨hi, _⟩, rfl⟩ := hl
 rw [List.getElem?_eq_getElem (by omega)]
 exact List.getElem_mem _
theorem keep_len (M : List (List Nat)) (lost k : Nat) : (keepTo M lost k).length ≤ k := by
 unfold keepTo
 rw [List.length_map]
 exact Nat.le_trans (List.length_filter_le _ _) (by simp)
theorem rem_iff (T : List (List Nat)) (v : Nat → Nat) : Rem T 0 v ↔ ∃ l ∈ T, v = vec l := by
 constructor
 · rintro ⟨i, hi, _, rfl⟩; exact ⟨_, List.getElem_mem hi, rfl⟩
 · rintro ⟨l, hl, rfl⟩
   obtain ⟨i, hi, rfl⟩ := List.mem_iff_getElem.1 hl
   exact ⟨i, hi, Nat.zero_le _, rfl⟩
theorem rem_keep (M : List (List Nat)) (lost k : Nat) (v : Nat → Nat) : Rem (keepTo M lost k) 0 v ↔ ∃ i, i < k ∧ lost / 2 ^ i % 2 = 0 ∧ v = vec (M.getD i []) := by
 rw [rem_iff]
 constructor
 · rintro ⟨l, hl, rfl⟩
   simp only [keepTo, List.mem_map, List.mem_filter, List.mem_range, decide_eq_true_eq] at hl
   obtain ⟨i, ⟨hi, hb⟩, rfl⟩ := hl
   exact ⟨i, hi, hb, rfl⟩
 · rintro ⟨i, hi, hb, rfl⟩
   refine ⟨_, ?_, rfl⟩
   simp only [keepTo, List.mem_map, List.mem_filter, List.mem_range, decide_eq_true_eq]
   exact ⟨i, ⟨hi, hb⟩, rfl⟩
def cnt (lost n : Nat) : Nat := (List.range n).countP (fun i => decide (lost / 2 ^ i % 2 = 1))
theorem cnt_succ (lost n : Nat) : cnt lost (n + 1) = cnt lost n + (if lost / 2 ^ n % 2 = 1 then 1 else 0) := by
 simp [cnt, List.range_succ, List.countP_append, List.countP_cons]
theorem vec_data (D i : Nat) (hi : i < D) : vec (dataL D i) = unitV i := by
 funext j
 unfold vec dataL unitV
 by_cases e : j = i
 · subst e; simp [hi]
 · rw [if_neg e]
   simp [Ne.symm e, List.getElem?_replicate]
   split <;> rfl
theorem vec_global (D i j : Nat) : vec (globalL D i) j = if j < D then gi ((D + i) ^^^ j) else 0 := by
 unfold vec globalL
 by_cases h : j < D
 · simp [h]
 · simp [h]
theorem mat_data (D L G i : Nat) (hi : i < D) : (matL D L G).getD i [] = dataL D i := by
 simp [matL, List.getElem?_append, hi]
theorem mat_global (D L G i : Nat) (hi : i < G) : (matL D L G).getD (D + L + i) [] = globalL D i := by
 have e1 : ¬ D + L + i < D := by omega
 have e2 : ¬ D + L + i - D < L := by omega
 have e3 : D + L + i - D - L = i := by omega
 simp [matL, List.getElem?_append, e1, e2, e3, hi]
theorem clearV {R : (Nat → Nat) → Prop} (hR : ∀ r, R r → byteV r) {v : Nat → Nat} (hv : Span R v) : ∀ K : List Nat, (∀ k ∈ K, Span R (unitV k)) → Span R (fun j => if j ∈ K then 0 else v j)
 | [], _ => by simpa using hv
 | k :: K, h => by
  by_cases hk : k ∈ K
  · have e : (fun j => if j ∈ k :: K then 0 else v j) = fun j => if j ∈ K then 0 else v j := by
     funext j
     by_cases e1 : j = k
     · subst e1; simp [hk]
     · simp [e1]
    rw [e]; exact clearV hR hv K (fun j hj => h j (List.mem_cons_of_mem _ hj))
  · have hb := hv.byte k
    have t := Span.add hR (clearV hR hv K (fun j hj => h j (List.mem_cons_of_mem _ hj))) hb (h k List.mem_cons_self)
    have e : addV (fun j => if j ∈ K then 0 else v j) (v k) (unitV k) = fun j => if j ∈ k :: K then 0 else v j := by
     funext j
     show (if j ∈ K then 0 else v j) ^^^ gm (v k) (if j = k then 1 else 0) = _
     by_cases e1 : j = k
     · subst e1
       rw [if_neg hk, if_pos rfl, gm_one _ hb, Nat.xor_self, if_pos List.mem_cons_self]
     · rw [if_neg e1, gm_zero, Nat.xor_zero]
       by_cases e2 : j ∈ K
       · rw [if_pos e2, if_pos (List.mem_cons_of_mem _ e2)]
       · rw [if_neg e2, if_neg (by simp [e1, e2])]
    rwa [e] at t
theorem any_full (D L G lost : Nat) (hD : D ≤ 12) (hG : G ≤ 4) (hR : ∀ r, Rem (keepTo (matL D L G) lost (D + L + G)) 0 r → byteV r) (hc : cnt lost (D + L + G) ≤ G) :
 Full (Rem (keepTo (matL D L G) lost (D + L + G)) 0) 0 D := by
 have kd : ∀ j, j < D → lost / 2 ^ j % 2 = 0 → Span (Rem (keepTo (matL D L G) lost (D + L + G)) 0) (unitV j) := by
  intro j hj hb
  have hr : Rem (keepTo (matL D L G) lost (D + L + G)) 0 (unitV j) := (rem_keep _ _ _ _).2 ⟨j, by omega, hb, by rw [mat_data D L G j hj, vec_data D j hj]⟩
  exact Span.mem (unitV_byte j) hr
 have h2 : cnt lost (D + L + G) = cnt lost D + ((List.range L).countP (fun i => decide (lost / 2 ^ (D + i) % 2 = 1)) + (List.range G).countP (fun i => decide (lost / 2 ^ (D + L + i) % 2 = 1))) := by
  unfold cnt
  rw [List.range_add, List.countP_append, List.range_add, List.countP_append, List.countP_map, List.countP_map, Nat.add_assoc]
  rfl
 have hg := List.length_eq_countP_add_countP (fun i => decide (lost / 2 ^ (D + L + i) % 2 = 1)) (l := List.range G)
 rw [List.length_range] at hg
 have ng : (List.range G).countP (fun i => decide ¬ (decide (lost / 2 ^ (D + L + i) % 2 = 1)) = true) = ((List.range G).filter (fun i => decide (lost / 2 ^ (D + L + i) % 2 = 0))).length := by
  rw [← List.countP_eq_length_filter]
  congr 1
  funext i
  have := Nat.mod_two_eq_zero_or_one (lost / 2 ^ (D + L + i))
  rcases this with h | h <;> simp [h]
 have nl : cnt lost D = ((List.range D).filter (fun i => decide (lost / 2 ^ i % 2 = 1))).length := by rw [cnt, List.countP_eq_length_filter]
 refine Full.units hR fun j hj => ?_
 rcases Nat.mod_two_eq_zero_or_one (lost / 2 ^ j) with hb | hb
 · exact kd j hj hb
 · refine cauchy _ hR ((List.range D).filter (fun i => decide (lost / 2 ^ i % 2 = 1))) (((List.range G).filter (fun i => decide (lost / 2 ^ (D + L + i) % 2 = 0))).map (fun i => D + i)) (fun _ => 1)
    (List.nodup_range.filter _) ?_ ?_ ?_ ?_ ?_ j (by simp [hj, hb])
   · exact List.Pairwise.map _ (fun a b h => by omega) (List.nodup_range.filter _)
   · rw [List.length_map, ← nl, ← ng]; omega
   · intro i hi
     simp at hi
     exact ⟨by omega, by decide, by decide⟩
   · intro x hx
     simp at hx
     obtain ⟨i, ⟨hi, _⟩, rfl⟩ := hx
     refine ⟨by omega, fun k hk => ?_⟩
     simp at hk
     omega
   · intro x hx
     simp only [List.mem_map, List.mem_filter, List.mem_range, decide_eq_true_eq] at hx
     obtain ⟨i, ⟨hi, h1⟩, rfl⟩ := hx
     have hr : Rem (keepTo (matL D L G) lost (D + L + G)) 0 (vec (globalL D i)) := (rem_keep _ _ _ _).2 ⟨D + L + i, by omega, h1, by rw [mat_global D L G i hi]⟩
     have t := clearV hR (Span.mem (hR _ hr) hr) ((List.range D).filter (fun i => decide (lost / 2 ^ i % 2 = 0))) (fun k hk => by
      simp only [List.mem_filter, List.mem_range, decide_eq_true_eq] at hk
      exact kd k hk.1 hk.2)
     have e : (fun j => if j ∈ (List.range D).filter (fun i => decide (lost / 2 ^ i % 2 = 0)) then 0 else vec (globalL D i) j) = cauV ((List.range D).filter (fun i => decide (lost / 2 ^ i % 2 = 1))) (fun _ => 1) (D + i) := by
      funext k
      unfold cauV
      rw [vec_global]
      simp only [List.mem_filter, List.mem_range, decide_eq_true_eq]
      by_cases hk : k < D
      · rcases Nat.mod_two_eq_zero_or_one (lost / 2 ^ k) with h0 | h0
        · rw [if_pos ⟨hk, h0⟩, if_neg (by omega)]
        · rw [if_neg (by omega), if_pos hk, if_pos ⟨hk, h0⟩]
          have := gi_lt (a := (D + i) ^^^ k) (xlt (by omega) (by omega))
          rw [gm_comm (a := 1) (by decide) this, gm_one _ this]
      · rw [if_neg (by omega), if_neg hk, if_neg (by omega)]
     rwa [e] at t
section
open Go.RowKit Go.Deep
theorem bit_u64 (lost k : Nat) (hl : lost < 18446744073709551616) : bits .and .u64 ((lost : Int) / 2 ^ k) 1 = ((lost / 2 ^ k % 2 : Nat) : Int) := by
 have c : (lost : Int) / 2 ^ k = ((lost / 2 ^ k : Nat) : Int) := by simp
 have h : lost / 2 ^ k < 18446744073709551616 := Nat.lt_of_le_of_lt (Nat.div_le_self _ _) hl
 have e := u64_and_nat (lost / 2 ^ k) 1 h (by decide)
 rw [and1] at e
 rw [c]; exact e
def Rl (w0 w : World) (v : Value) (K : List (List Nat)) : Prop :=
 ∃ xs : List Value, xs.length = K.length ∧ (∀ i (h : i < xs.length) (h' : i < K.length), Bs w0 xs[i] K[i]) ∧ w.ownsRow w0.heap.size 31 1 v xs.length xs ∧ Below w0.heap.size w0 w
theorem Rl.nil (w : World) : Rl w w (.slice none 0 0) [] := ⟨[], rfl, fun i h => absurd h (by simp), World.ownsRow_nil _ _ _ _, Below.refl _ _⟩
theorem Rl.rd (h : Rl w0 w v K) (hl : K.length ≤ 100000) : Rd w v K := by
 obtain ⟨xs, h3, hB, h2, hb⟩ := h
 rcases h2.2 with ⟨h0, h1⟩ | ⟨g, cap, cur, e1, e2, e3, e4, e5, e6, e7⟩
 · have : K = [] := List.eq_nil_of_length_eq_zero (by omega)
   subst this
   exact ⟨none, 0, h0, by simp, fun h => absurd rfl h⟩
 · refine ⟨some ⟨g, 0, none⟩, cap, by rw [e1, h3], by omega, fun _ => ⟨g, 0, rfl, fun i hi => ?_⟩⟩
   have h4 : i < xs.length := by omega
   have := h2.cells (g := g) (by rw [e1]; rfl) i xs[i] (by simp [h4])
   rw [add0] at this
   exact ⟨xs[i], by rw [Nat.zero_add]; exact this, (hB i h4 hi).mono hb⟩
theorem Rl.push {w1 w2 : World} {v' : Value} {o : Obj} {xs : List Value} (h0 : xs.length = K.length) (hB : ∀ i (h : i < xs.length) (h' : i < K.length), Bs w0 xs[i] K[i])
 (h2 : w.ownsRow w0.heap.size 31 1 v xs.length xs) (hb : Below w0.heap.size w0 w) (hw : w1 = w.alloc o) (hu : Bs w0 u l)
 (hg : w1.grownBy w2 v.ownBlock) (h1 : w2.ownsRow w0.heap.size 31 1 v' (xs.length + 1) (xs ++ [u])) : Rl w0 w2 v' (K ++ [l]) := by
 subst hw
 refine ⟨xs ++ [u], by simp [h0], fun i h h' => ?_, by simpa using h1, (hb.alloc hb.size o).grown hg (by rw [nblk_alloc]; have := hb.size; omega) fun k hk => (h2.lt k hk).1⟩
 by_cases hi : i < xs.length
 · rw [List.getElem_append_left hi, List.getElem_append_left (by omega)]
   exact hB i hi (by omega)
 · have e : i = xs.length := by simp at h; omega
   subst e
   rw [List.getElem_append_right (Nat.le_refl _), List.getElem_append_right (by omega)]
   simpa [h0] using hu
theorem Bs.one (h : Bs w u l) : u.oneCell' = true := by
 obtain ⟨ao, c, rfl, _⟩ := h
 rfl
def KpR (w : World) (M : List (List Nat)) (lost : Nat) (v i : Value) (wr : World) : Prop := ∃ k : Nat, k ≤ M.length ∧ i = .int .i64 k ∧ Rl w wr v (keepTo M lost k)
theorem kept_any (vm : Value) (M : List (List Nat)) (lost : Nat) (w : World) (hM : Rd w vm M) (hl : lost < 18446744073709551616) (hm : M.length ≤ 64) :
 Calls Tryz.prog 122 #[vm, .int .u64 lost] w fun e w' => ∃ v, e = .returned v ∧ Rl w w' v (keepTo M lost M.length) := by
 obtain ⟨i0, he, hf, hg, hh⟩ := info_parts Tryz.infoBytes
 rcases hM.cases with ⟨rfl, ao, c, rfl⟩ | ⟨b, off, c, rfl, _, hc⟩
 · go_enter Tryz.func122, Tryz.ntmps122
   go_wp2
   refine wp_loop_rounds 1 ?_
   rw [rounds_succ]
   go_wp2
   go_ret
   exact ⟨_, rfl, Rl.nil _⟩
 · clear hM
   go_enter Tryz.func122, Tryz.ntmps122
   go_wp2
   go_loopw [5, 10] (fun v i wr => KpR w M lost v i wr) (fun _ i _ => M.length - (intOf i).toNat)
   case atStart => exact ⟨0, Nat.zero_le _, rfl, Rl.nil _⟩
   case round =>
    rename World => wo
    obtain ⟨k, hk, rfl, hR⟩ := hrel
    by_cases h8 : k < M.length
    · obtain ⟨u, hu, hB⟩ := hc k h8
      have hi : wo.cell? ⟨b, off + k, none⟩ = some u := by rw [hR.choose_spec.2.2.2.cell (block_lt_of_cell hu)]; exact hu
      obtain ⟨au, cu, rfl, _⟩ := id hB
      have h5 := bit_u64 lost k hl
      have HK := hide (keep_len M lost k)
      have HC := hide hc
      have HB := hide hB
      have HU := hide hu
      have h6 : M.getD k [] = M[k] := by simp [h8]
      have hj := hide h6
      clear hc hB hu h6
      by_cases hz : lost / 2 ^ k % 2 = 0
      · rw [hz] at h5
        have hn := hide (keep_in M lost k hz)
        clear hz
        obtain ⟨xs, h3, hX, h4, h7⟩ := hR
        have HX := hide hX
        have hp := hide h3
        have hy : xs.length ≤ 64 := by rw [h3]; exact Nat.le_trans HK.out (by omega)
        have hs := h7.size
        clear hX h3
        go_wp2_with (at_builtin; refine wpList_append_own _ rfl (.tmp 20) (.tmp 22) 153 rfl w.heap.size 31 i0 (.slice none 0 0) 1 24 Tryz.underlying153 he hf hg hh rfl (by decide) _ xs.length xs rfl (ownsRow_below h4 ((Below.refl _ _).alloc (Nat.le_refl _) _)) ⟨wo.heap.size, 0, none⟩ 1 1 [.slice au (M[k]).length cu] rfl rfl (one_new _ _ rfl _ _) (by intro q hq; simp at hq; rw [hq]; exact HB.out.one) (by unfold maxLen; omega) (by omega) (by rw [nblk_alloc]; omega) ?_; intro v' w2 h0 h2 hr)
        have h9 := Rl.push hp.out HX.out h4 h7 rfl HB.out h2 h0
        rw [← hj.out, ← hn.out] at h9
        clear h4 h0 h2 hr h7 hi
        go_wp2
        go_roundw
        case rel => exact ⟨k + 1, by omega, by go_num, h9⟩
        case measure => simp [intOf]; omega
      · have h1 : lost / 2 ^ k % 2 = 1 := by omega
        rw [h1] at h5
        have hx := hide (keep_out M lost k hz)
        clear hz h1
        have HR := hide hR
        clear hR
        go_wp2
        go_roundw
        case rel => exact ⟨k + 1, by omega, by go_num, by rw [hx.out]; exact HR.out⟩
        case measure => simp [intOf]; omega
    · have ha : k = M.length := by omega
      rw [ha] at hR
      clear hc ha
      go_wp2
      go_ret
      exact ⟨_, rfl, hR⟩
end
section
open Go.RowKit Go.Deep
def FitG (D : List (List Nat)) : Prop := D.length ≤ 64 ∧ ∀ i (hi : i < D.length), (D[i]).length ≤ 64
def RkPost (D : List (List Nat)) (w : World) (e : Ending) (w' : World) : Prop := (FitG D → ∃ k : Nat, k ≤ 64 ∧ e = .returned (.int .i64 k) ∧ RankIs D k) ∧ (¬ FitG D → e = .returned (.int .i64 (-1))) ∧ Below w.heap.size w w'
end
section
open Go.RowKit Go.Deep
def FtPost (D : List (List Nat)) (w : World) (e : Ending) (w' : World) : Prop := (FitG D → e = .returned (.bool true)) ∧ (¬ FitG D → e = .returned (.bool false)) ∧ w' = w
def FtR (D : List (List Nat)) (i : Value) : Prop := ∃ k : Nat, k ≤ D.length ∧ i = .int .i64 (k : Nat) ∧ ∀ j (hj : j < D.length), j < k → (D[j]).length ≤ 64
theorem fits_any (vd : Value) (D : List (List Nat)) (w : World) (hd : Rd w vd D) :
 Calls Tryz.prog 149 #[vd] w fun e w' => FtPost D w e w' := by
 by_cases h5 : 64 < D.length
 · obtain ⟨ao, c, rfl, hl, _⟩ := hd
   go_enter Tryz.func149, Tryz.ntmps149
   go_wp2
   go_ret
   exact ⟨fun h => absurd h.1 (by omega), fun _ => rfl, rfl⟩
 rcases hd.cases with ⟨rfl, ao, c, rfl⟩ | ⟨b, off, c, rfl, hl, hc⟩
 · go_enter Tryz.func149, Tryz.ntmps149
   go_wp2
   refine wp_loop_rounds 1 ?_
   rw [rounds_succ]
   go_wp2
   go_ret
   exact ⟨fun _ => rfl, fun h => absurd ⟨by simp, fun i hi => by simp at hi⟩ h, rfl⟩
 have HC := hide hc
 clear hc
 go_enter Tryz.func149, Tryz.ntmps149
 go_wp2
 go_loop [10] (fun i => FtR D i) (fun i => D.length - (intOf i).toNat)
 case atStart => exact ⟨0, Nat.zero_le _, rfl, fun j _ h => absurd h (by omega)⟩
 case round =>
  obtain ⟨k, hk, rfl, h0⟩ := hrel
  by_cases h2 : k < D.length
  · obtain ⟨u, hu, h3⟩ := HC.out k h2
    obtain ⟨fo, fc, rfl, q1, q2, q3, q4⟩ := h3
    by_cases h1 : (D[k]).length ≤ 64
    · have h4 : Hid (∀ j (hj : j < D.length), j < k + 1 → (D[j]).length ≤ 64) := by
       intro j hj h6
       by_cases e : j = k
       · subst e; exact h1
       · exact h0 j hj (by omega)
      clear h0 q1 q2 q3 q4
      generalize (D[k]).length = lk at *
      go_wp2
      go_round
      case rel => exact ⟨k + 1, by omega, by go_num, h4.out⟩
      case measure => simp [intOf]; omega
    · have HN : Hid (¬ FitG D) := fun h => h1 (h.2 k h2)
      have h7 : (D[k]).length ≤ 140737488355328 := by omega
      clear h0 q1 q2 q3 q4
      generalize (D[k]).length = lk at *
      go_wp2
      go_ret
      exact ⟨fun h => absurd h HN.out, fun _ => rfl, rfl⟩
  · have HF : Hid (FitG D) := ⟨by omega, fun i hi => h0 i hi (by omega)⟩
    clear h0
    go_wp2
    go_ret
    exact ⟨fun _ => rfl, fun h => absurd HF.out h, rfl⟩
def wk (G : Nat → Nat) (top c iv k x : Nat) : Nat := if top < x / 64 ∧ x / 64 < k ∧ c ≤ x % 64 then G x ^^^ gm (gm (G (x / 64 * 64 + c)) iv) (G (top * 64 + x % 64)) else G x
theorem wk_start (G : Nat → Nat) (top c iv : Nat) : wk G top c iv (top + 1) = G := by
 funext x; unfold wk; rw [if_neg (by omega)]
theorem wk_lt {G : Nat → Nat} (h : ∀ x, G x < 256) {iv : Nat} (top c k x : Nat) : wk G top c iv k x < 256 := by
 unfold wk
 split
 · exact xlt (h x) (gm_lt _ (gm_lt _ (h _)))
 · exact h x
theorem wk_top (G : Nat → Nat) (top c iv k j : Nat) (hj : j < 64) : wk G top c iv k (top * 64 + j) = G (top * 64 + j) := by
 unfold wk; rw [if_neg (by omega)]
theorem wk_next (G : Nat → Nat) (top c iv k j : Nat) (hj : j < 64) : wk G top c iv k (k * 64 + j) = G (k * 64 + j) := by
 unfold wk; rw [if_neg (by omega)]
theorem wk_step (G : Nat → Nat) (top c iv k : Nat) (ht : top < k) (hc : c < 64) : addTo (wk G top c iv k) (fun i => G (top * 64 + c + i)) (gm (G (k * 64 + c)) iv) (k * 64 + c) (64 - c) = wk G top c iv (k + 1) := by
 funext x
 unfold addTo
 by_cases h : k * 64 + c ≤ x ∧ x < k * 64 + c + (64 - c)
 · have e1 : x / 64 = k := by omega
   have e2 : top * 64 + c + (x - (k * 64 + c)) = top * 64 + x % 64 := by omega
   rw [if_pos h]
   unfold wk
   rw [if_neg (by omega), if_pos (by omega), e1]
   show _ ^^^ gm _ (G (top * 64 + c + (x - (k * 64 + c)))) = _
   rw [e2]
 · rw [if_neg h]
   unfold wk
   by_cases h2 : top < x / 64 ∧ x / 64 < k ∧ c ≤ x % 64
   · rw [if_pos h2, if_pos (by omega)]
   · rw [if_neg h2, if_neg (by omega)]
theorem grid_slice (w : World) (b o c : Nat) (hc : c < 64) : (Instr.sliceAt 239 (.pointer (some ⟨b, o, none⟩)) (some (.int .i64 (c : Int))) none none).run Tryz.prog w = .ok (.slice (some ⟨b, o + c, none⟩) (64 - c) (64 - c)) w := by
 have hl : Tryz.prog.arrayLen 239 = 64 := by kernel_rfl
 have hu : Tryz.prog.underlying 239 = some (.array (Tryz.prog.arrayLen 239) (Tryz.prog.elem 239)) := by kernel_rfl
 have hs : ∀ w, (sizeOf (Tryz.prog.elem 239)).run Tryz.prog w = .ok 1 w := by
  have he : Tryz.prog.elem 239 = 5 := by kernel_rfl
  rw [he]
  intro w
  go_simp
 rw [run_sliceAt_array_l w 239 _ hu .i64 (c : Int) (by omega) (by rw [hl]; omega), hs, hl]
 simp [slicedAt, Result.andThen]
 rw [if_neg (by omega)]
 simp [Addr.add]
def WkR (w : World) (b t top c iv n : Nat) (G : Nat → Nat) (i : Value) (wr : World) : Prop :=
 ∃ k : Nat, top < k ∧ k ≤ max n (top + 1) ∧ i = .int .i64 (k : Nat) ∧ wr.rowIs b t 4096 (tv (wk G top c iv k)) ∧ w.grownBy wr (some b)
theorem workOff_any (b top c n : Nat) (G : Nat → Nat) (w : World) (hG : ∀ x, G x < 256) (hr : w.rowIs b 263 4096 (tv G)) (ht : top < 64) (hc : c < 64) (hn : n ≤ 64) :
 Calls Tryz.prog 151 #[.pointer (some ⟨b, 0, none⟩), .int .i64 top, .int .i64 c, .int .i64 n] w fun e w' => e = .returned (.tuple #[]) ∧ w'.rowIs b 263 4096 (tv (wk G top c (gi (G (top * 64 + c))) (max n (top + 1)))) ∧ w.grownBy w' (some b) := by
 have hf : w.cell? ⟨b, top * 64 + c, none⟩ = some (.int .u8 ((G (top * 64 + c) : Nat) : Int)) := hr.cell (by omega)
 have hy := hG (top * 64 + c)
 generalize hq : G (top * 64 + c) = y at *
 go_enter Tryz.func151, Tryz.ntmps151
 go_wp2_with (go_at_call 170; refine (inv_any y hy _).mono ?_; rintro e wv ⟨rfl, rfl⟩)
 have h5 : wv.rowIs b 263 4096 (tv (wk G top c (gi y) (top + 1))) := by rw [wk_start]; exact hr
 go_loopw [9] (fun i wr => WkR wv b 263 top c (gi y) n G i wr) (fun i _ => n - (intOf i).toNat)
 case atStart => exact ⟨top + 1, by omega, by omega, by go_num, h5, World.grownBy.refl _ _⟩
 case round =>
  clear h5 hr hf
  rename World => wo
  obtain ⟨k, hg, hs, rfl, h2, h6⟩ := hrel
  by_cases hz : k < n
  · have hh : wo.cell? ⟨b, k * 64 + c, none⟩ = some (.int .u8 ((wk G top c (gi y) k (k * 64 + c) : Nat) : Int)) := h2.cell (by omega)
    rw [wk_next _ _ _ _ _ _ hc] at hh
    have hx := hG (k * 64 + c)
    have h7 : ∀ i, i < 64 - c → wo.cell? ⟨b, top * 64 + c + i, none⟩ = some (.int .u8 ((G (top * 64 + c + i) : Nat) : Int)) := by
     intro i hi
     have h1 : wo.cell? ⟨b, top * 64 + c + i, none⟩ = some (.int .u8 ((wk G top c (gi y) k (top * 64 + c + i) : Nat) : Int)) := h2.cell (by omega)
     rw [Nat.add_assoc, wk_top _ _ _ _ _ _ (by omega), ← Nat.add_assoc] at h1
     exact h1
    have h8 := wk_step G top c (gi y) k hg hc
    have hj : gm (G (k * 64 + c)) (gi y) < 256 := gm_lt _ hx
    have hk := hide h7
    have hm := hide h8
    clear h7 h8
    generalize G (k * 64 + c) = x at *
    have h3 := fun w => grid_slice w b (k * 64) c hc
    have h4 := fun w => grid_slice w b (top * 64) c hc
    go_wp2
    go_region_with (first
     | (go_at_call 171; refine (mul_any x (gi y) hx (gi_lt hy) _).mono ?_; rintro e w' ⟨rfl, rfl⟩)
     | (go_at_call 162; refine (addTimes_some b 263 4096 (k * 64 + c) (64 - c) (64 - c) b (top * 64 + c) (64 - c) (gm x (gi y)) (wk G top c (gi y) k) (fun i => G (top * 64 + c + i)) _ hj (by exact h2) (wk_lt hG top c k) (fun j => hG _) (by omega) (by omega) (by exact hk.out) (.inr (.inl (by omega)))).mono ?_; rintro e w' ⟨rfl, h9, h0⟩))
    all_goals
     have ha := h9
     rw [hm.out] at ha
     have hp : wv.grownBy w' (some b) := grown_trans h6 ⟨h0.os, h0.tape, h0.output, h0.size, h0.block⟩
     clear h9 h0 h3 h4
     go_wp2
     go_roundw
     case rel => exact ⟨k + 1, by omega, by omega, by go_num, ha, hp⟩
     case measure => simp [intOf]; omega
  · have he : k = max n (top + 1) := by omega
    rw [he] at h2
    clear he
    go_wp2
    go_end0
    exact ⟨rfl, h2, h6⟩
end
section
open Go.RowKit Go.Deep
def gridOf (D : List (List Nat)) (x : Nat) : Nat := (D.getD (x / 64) []).getD (x % 64) 0
def gridTo (D : List (List Nat)) (k x : Nat) : Nat := if x / 64 < k then gridOf D x else 0
theorem Tryz.infoGrid : (Tryz.prog.info? 263).map (fun i => (i.zero, i.size, i.bytes)) = some (some (.agg (Array.replicate 4096 (.int .u8 0))), 4096, 4096) := by kernel_rfl
theorem Tryz.sizeGrid : (Tryz.prog.info? 263).map (fun i => i.size) = some 4096 := by kernel_rfl
theorem zeroGrid (w : World) : (zeroValue 263).run Tryz.prog w = .ok (.agg (Array.replicate 4096 (.int .u8 0))) w := by
 obtain ⟨i0, h0, h1, _, _⟩ := info_parts Tryz.infoGrid
 simp [zeroValue, typeInfo, Sem.run_bind, h0, h1]
theorem zero4096 (w : World) : (w.alloc (.cells (Array.replicate 4096 (.int .u8 0)) 263)).rowIs w.heap.size 263 4096 (fun _ => .int .u8 0) := by
 have h := World.rowIs_alloc w (Array.replicate 4096 (.int .u8 0)) 263 (fun _ => .int .u8 0) (fun i hi => by simp at hi; simp [hi])
 simpa using h
theorem row_heap {t : Nat} {f : Nat → Value} (h : w.rowIs b t n f) : w.heap[b]? = some (.cells ((List.range n).map f).toArray t (0, 0)) := by
 obtain ⟨c, hc, hs, hg⟩ := h
 have : c = ((List.range n).map f).toArray := by
  apply Array.ext
  · simp [hs]
  · intro i h1 h2
    have := hg i (by omega)
    rw [Array.getElem?_eq_getElem h1] at this
    simp at this
    simp [this]
 rw [← this]; exact hc
theorem wpList_cpg {ops : Array Oper} {rest : List Oper} {o : Oper} {a : Act} {Q : Exit → Act → World → Prop} (h5 : o.guard = none) (d s : Operand)
 (ho : o.op = .call { callee := .builtin .copy, args := #[d, s], argTypes := #[31, 31] }) (g off n cap N t : Nat) (v : Value) (hd : a.eval d = .slice (some ⟨g, off, none⟩) n cap) (hs : a.eval s = v)
 (F : Nat → Nat) (src : List Nat) (hB : w.rowIs g t N (tv F)) (hS : Bs w v src) (h8 : src.length ≤ n) (hn : off + n ≤ N)
 (h : ∀ w', w'.rowIs g t N (tv (fun x => if off ≤ x ∧ x < off + src.length then src.getD (x - off) 0 else F x)) → Below g w w' → wpList Tryz.prog ops Q rest (a.put o.dst (goInt src.length)) w') : wpList Tryz.prog ops Q (o :: rest) a w := by
 obtain ⟨ao, c, rfl, h1, h2, h3, h4⟩ := hS
 refine wpList_copy_splice h5 d s 31 31 ho 5 Tryz.underlying31 (by kernel_rfl) (some ⟨g, off, none⟩) ao n cap src.length c hd hs g off _ t (row_heap hB) (src.map (fun x => Value.int .u8 ((x : Nat) : Int))) ?_ ?_ ?_ ?_ g w (Below.refl _ _) (Nat.le_refl _) ?_
 · rw [List.length_map]
   show src.length = min src.length n
   omega
 · intro hp
   rw [List.length_map] at hp
   obtain ⟨b, off, rfl, hc⟩ := h4 (by intro e; rw [e] at hp; simp at hp)
   refine ⟨rfl, _, rfl, fun j u hj => ?_⟩
   have h0 : j < src.length := by
    have := List.getElem?_eq_some_iff.1 hj
    obtain ⟨q, _⟩ := this
    simpa using q
   rw [Addr.add_mid, hc j h0]
   simp [h0] at hj
   simp [h0, hj]
 · simp; omega
 · intro u hu
   obtain ⟨x, _, rfl⟩ := List.mem_map.1 hu
   rfl
 · intro w' h6 h7
   have hw := h6.out
   rw [List.length_map]
   refine h w' ⟨_, hw, ?_, fun i hi => ?_⟩ h7
   · rw [List.size_toArray, length_splice _ _ _ (by simp; omega)]; simp
   · unfold splice
     rw [List.getElem?_toArray]
     by_cases q1 : i < off
     · rw [List.getElem?_append_left (by simp; omega)]
       have q0 : ¬ (off ≤ i ∧ i < off + src.length) := by omega
       simp only [tv, if_neg q0]
       simp [q1, hi, tv]
     · rw [List.getElem?_append_right (by simp; omega)]
       have e0 : (((List.range N).map (tv F)).take off).length = off := by simp; omega
       rw [e0]
       by_cases q2 : i < off + src.length
       · rw [List.getElem?_append_left (by simp; omega)]
         have q3 : i - off < src.length := by omega
         simp [q3, tv, q2, Nat.not_lt.1 q1]
       · rw [List.getElem?_append_right (by simp; omega)]
         simp only [List.length_map]
         rw [List.getElem?_drop]
         have e1 : off + src.length + (i - off - src.length) = i := by omega
         rw [e1]
         simp [hi, tv, q2]
def LyR (w : World) (B : Nat) (D : List (List Nat)) (i : Value) (wr : World) : Prop :=
 ∃ k : Nat, k ≤ D.length ∧ i = .int .i64 (k : Nat) ∧ wr.rowIs (B + 1) 263 4096 (tv (gridTo D k)) ∧ wr.rowIs B 263 4096 (fun _ => .int .u8 0) ∧ Below B w wr
theorem gridTo_step (D : List (List Nat)) (k : Nat) (hk : k < D.length) (hl : (D[k]).length ≤ 64) : (fun x => if k * 64 ≤ x ∧ x < k * 64 + (D[k]).length then (D[k]).getD (x - k * 64) 0 else gridTo D k x) = gridTo D (k + 1) := by
 have hg : D.getD k [] = D[k] := by simp [hk]
 funext x
 unfold gridTo gridOf
 by_cases h : k * 64 ≤ x ∧ x < k * 64 + (D[k]).length
 · rw [if_pos h, if_pos (by omega)]
   have e1 : x / 64 = k := by omega
   have e2 : x % 64 = x - k * 64 := by omega
   rw [e1, hg, e2]
 · rw [if_neg h]
   by_cases h2 : x / 64 < k
   · rw [if_pos h2, if_pos (by omega)]
   · rw [if_neg h2]
     by_cases h3 : x / 64 = k
     · rw [if_pos (by omega), h3, hg, List.getD_eq_getElem?_getD, List.getElem?_eq_none (by omega)]; rfl
     · rw [if_neg (by omega)]
theorem gridTo_end (D : List (List Nat)) (x : Nat) : gridTo D D.length x = gridOf D x := by
 unfold gridTo
 by_cases h : x / 64 < D.length
 · rw [if_pos h]
 · rw [if_neg h]
   unfold gridOf
   simp [List.getElem?_eq_none (Nat.not_lt.1 h)]
theorem one_cells2 {cs : Array Value} {f : Nat → Nat} (hs : cs.size = N) (h : ∀ j, j < N → cs[j]? = some (tv f j)) : cs.all (fun v => v.oneCell') = true := by
 rw [Array.all_eq_true]
 intro i hi
 have := h i (by omega)
 rw [Array.getElem?_eq_getElem hi] at this
 simp at this
 rw [this]; rfl
theorem lay_any (vd : Value) (D : List (List Nat)) (w : World) (hd : Rd w vd D) (hf : FitG D) :
 Calls Tryz.prog 150 #[vd] w fun e w' => ∃ cs : Array Value, e = .returned (.agg cs) ∧ cs.size = 4096 ∧ (∀ j, j < 4096 → cs[j]? = some (tv (gridOf D) j)) ∧ Below w.heap.size w w' := by
 have HF := hide hf
 have hh := hf.1
 have hm := hd
 obtain ⟨ao, c, rfl, hl, hc⟩ := hd
 have HC := hide hc
 clear hc hf hm
 have hn := zeroGrid
 go_enter Tryz.func150, Tryz.ntmps150
 go_wp2
 clear hn
 go_loopw [8] (fun i wr => LyR w w.heap.size D i wr) (fun i _ => D.length - (intOf i).toNat)
 case atStart =>
  refine ⟨0, Nat.zero_le _, rfl, ?_, ?_, ?_⟩
  · have h := zero4096 (w.alloc (.cells (Array.replicate 4096 (.int .u8 0)) 263))
    rw [nblk_alloc] at h
    exact h.congr fun j hj => by unfold tv gridTo; simp
  · exact (zero4096 w).alloc _
  · exact ((Below.refl _ _).alloc (Nat.le_refl _) _).alloc (by rw [nblk_alloc]; omega) _
 case round =>
  rename World => wo
  obtain ⟨k, hk, rfl, hR, hZ, hb⟩ := hrel
  by_cases h2 : k < D.length
  · obtain ⟨b, off, rfl, h5⟩ := HC.out (by intro e; rw [e] at h2; simp at h2)
    obtain ⟨u, hu, h6⟩ := h5 k h2
    have hp := h6.mono hb
    have h7 := HF.out.2 k h2
    have h8 := gridTo_step D k h2 h7
    have hx : wo.cell? ⟨b, off + k, none⟩ = some u := by rw [hb.cell (block_lt_of_cell hu)]; exact hu
    have hq := hide h8
    clear h5 h8 hu h6 HC
    generalize D[k] = l at *
    go_wp2_with (refine wpList_cpg rfl (.tmp 15) (.tmp 16) rfl (w.heap.size + 1) (k * 64) 64 64 4096 263 u rfl rfl (gridTo D k) l hR hp h7 (by omega) ?_; intro w2 h3 h9)
    rw [hq.out] at h3
    have hr := World.rowIs.of_block hZ (h9.block w.heap.size (by omega))
    go_wp2
    go_roundw
    case rel => exact ⟨k + 1, by omega, by go_num, h3, hr, hb.trans (h9.mono (by omega))⟩
    case measure => simp [intOf]; omega
  · have ha : k = D.length := by omega
    rw [ha] at hR
    clear ha
    have h3 := hR.congr (g := tv (gridOf D)) (fun j hj => by unfold tv; rw [gridTo_end])
    obtain ⟨cs, he, h4, h0⟩ := h3
    obtain ⟨zs, hg, hy, _⟩ := hZ
    have h1 := one_cells2 h4 h0
    have HG := hide h0
    have hi : (Tryz.prog.info? 263).map (fun i => i.size) = some cs.size := by rw [Tryz.sizeGrid, h4]
    have HI := hide hi
    have hs := hide he
    have HZ := hide hg
    clear h0 hR hi he hg
    go_wp2_with (first
     | refine wpList_load_row rfl 263 (.tmp 3) rfl (w.heap.size + 1) rfl 263 cs (0, 0) _ hs.out Tryz.underlying263 rfl HI.out ?_
     | refine wpList_store_row rfl 263 (.tmp 2) (.tmp 19) rfl w.heap.size cs rfl rfl 263 zs HZ.out HI.out (by omega) h1 ?_)
    exact bodyPost_ret (v := .agg cs) (results_cell_row Tryz.results150 _ _ w.heap.size 263 cs (0, 0) _ rfl (setRow_heap _ _ zs cs _ _ HZ.out) Tryz.underlying263 rfl HI.out) rfl ⟨cs, rfl, h4, HG.out, below_setRow hb (Nat.le_refl _) cs⟩
end
end Go.Proofs.YtpaemkanfnddoaaGreatDoor
