import Derived.Test.YtogdeaaphdlchaaGreatDoorPart18
import Derived.Test.YtogdeaaphdlchaaGreatDoorPart17
import Derived.Test.YtogdeaaphdlchaaGreatDoorPart01
/-
  free: the blocks in which nothing stands, one behind the other.
-/
namespace Go.Proofs.YtogdeaaphdlchaaGreatDoor
open Go.RowKit Go.Shelf Go.Deep Gf

attribute [local go_sem] Oper.semAt_some
/-- the blocks below k in which nothing stands -/
def frees (T : Nat → Bool) (k : Nat) : List Nat := (List.range k).filter (fun j => decide (2 ≤ j) && !T j)
theorem frees_two (T : Nat → Bool) : frees T 2 = [] := by simp [frees, List.range_succ]
theorem frees_succ (T : Nat → Bool) (k : Nat) : frees T (k + 1) = frees T k ++ (if 2 ≤ k ∧ T k = false then [k] else []) := by
  unfold frees
  rw [List.range_succ, List.filter_append]
  congr 1
  by_cases h : 2 ≤ k ∧ T k = false
  · rw [if_pos h]; simp [h.1, h.2]
  · rw [if_neg h]
    by_cases h2 : 2 ≤ k
    · have : T k = true := by cases q : T k <;> simp_all
      simp [this]
    · simp [h2]
theorem frees_mono (T : Nat → Bool) {k m : Nat} (h : k ≤ m) : frees T k <+: frees T m := by
  induction m with
  | zero => rw [show k = 0 by omega]; exact List.prefix_refl _
  | succ m ih =>
    by_cases e : k = m + 1
    · rw [e]; exact List.prefix_refl _
    · rw [frees_succ]; exact (ih (by omega)).trans (List.prefix_append _ _)
set_option maxHeartbeats 1000000 in
theorem arcFree_any (ar : Nat) (w : World) :
    Calls Tryz.prog 70 #[.pointer (some ⟨ar, 0, none⟩)] w fun e w' => e = .returned (.func (.func 91) #[] #[.pointer (some ⟨w.heap.size, 0, none⟩)]) ∧ w' = w.alloc (.cells #[.pointer (some ⟨ar, 0, none⟩)] 51) := by
  have hmf : ∀ (fn : Fn) (first cap : Array Value) (w : World), (Instr.makeFunc fn first cap).run Tryz.prog w = .ok (.func fn first cap) w := fun _ _ _ _ => rfl
  go_enter Tryz.func70, Tryz.ntmps70
  go_wp2
  go_ret
  exact ⟨rfl, rfl⟩
/-- a round keeps all cells from block b0 on -/
def KpC (b0 : Nat) (W W' : World) : Prop := W.heap.size ≤ W'.heap.size ∧ ∀ k o, b0 ≤ k → W.heap[k]? = some o → o.isCells = true → W'.heap[k]? = some o
theorem KpC.trans {b0 : Nat} {a b c : World} (h : KpC b0 a b) (k : KpC b0 b c) : KpC b0 a c := ⟨Nat.le_trans h.1 k.1, fun i o h1 h2 h3 => k.2 i o h1 (h.2 i o h1 h2 h3) h3⟩
theorem KpC.row {b0 : Nat} {W W' : World} (h : KpC b0 W W') {g n : Nat} {t : TypeId} {f : Nat → Value} (hg : b0 ≤ g) (hr : W.rowIs g t n f) : W'.rowIs g t n f := by
  obtain ⟨c, hc, _⟩ := id hr
  exact hr.of_block ((h.2 g _ hg hc rfl).trans hc.symm)
set_option maxRecDepth 100000 in
set_option maxHeartbeats 2000000 in
theorem free1_in {W : World} {ar v p D L G ps ho D' L' G' t f nn : Nat} {pg ob : Value} {off : Bool} {A : Arr} {F : Foot} (hA : ArcAt W ar v D' L' G' t f nn pg ob off) (hV : VolAt W v p D L G ps ho) (h : ArrAt W p A F) (hf : A.fit) (hn : 0 < A.n) (P : List Nat) (os : List Ob) (hP : Ints (fun k => k < W.heap.size) W pg P) (hC : Cat (fun k => k < W.heap.size) W ob os)
    (n l b1 b0 : Nat) (hb0 : b0 ≤ W.heap.size) (J Jx : List Nat → World → Prop) (hJg : ∀ pre A B, J pre A → Below A.heap.size A B → J pre B)
    (hY : ∀ pre x W, J pre W → pre.length < (frees (tk A.nb (P ++ allSt os)).1 A.nb).length → YieldAt Fence.wide (n - 1) Tryz.prog l (encN x) W fun e W' => (e = .returned (.bool true) ∧ J (pre ++ [x]) W' ∧ KpC b0 W W') ∨ (e = .returned (.bool false) ∧ Jx (pre ++ [x]) W'))
    (h1 : W.cell? ⟨b1, 0, none⟩ = some (.pointer (some ⟨ar, 0, none⟩))) (h0 : J [] W) :
    CallsIn Fence.wide n Tryz.prog 91 #[.func (.yield l) #[] #[], .pointer (some ⟨b1, 0, none⟩)] W fun e W' => (∃ v, e = .returned v) ∧
      ((∃ ys, ys = frees (tk A.nb (P ++ allSt os)).1 A.nb ∧ J ys W') ∨ (∃ pre, pre <+: frees (tk A.nb (P ++ allSt os)).1 A.nb ∧ Jx pre W')) := by
  have htk := taken_any hA hV h hf hn P os hP hC
  have hnb := hf.nb
  obtain ⟨nb, hnbE⟩ : ∃ nb, A.nb = nb := ⟨_, rfl⟩
  rw [hnbE] at htk hnb hY ⊢
  obtain ⟨T, hT⟩ : ∃ T, tk nb (P ++ allSt os) = T := ⟨_, rfl⟩
  rw [hT] at htk hY ⊢
  obtain ⟨tm, tr⟩ := T
  simp only at htk hY ⊢
  clear hnbE hT hA hV h hf hn hP hC
  refine callsIn_of_wp Tryz.func91 rfl trivial ?_ rfl
  simp only [Tryz.ntmps91, List.size_toArray, List.length_cons, List.length_nil, Nat.reduceAdd, Nat.reduceSub, Array.replicate_succ, Array.replicate_zero, List.push_toArray, List.append_toArray, List.nil_append, List.cons_append]
  gi_wp2
  refine at_wide htk ?_
  rintro e w1 ⟨g, rfl, hg, hrow, hb1⟩
  have hJ1 := hJg _ _ _ h0 hb1
  have H1 := hide (And.intro hrow hJ1)
  clear hrow hb1 hJ1 htk h0 h1
  gi_wp2
  gi_loopw [5] (fun p wr => ∃ k : Nat, p = .int .i64 (k : Nat) ∧ 2 ≤ k ∧ (k ≤ nb ∨ k = 2) ∧ J (frees tm k) wr ∧ wr.rowIs g 4 nb (fun j => .bool (tm j)))
    (fun p _ => nb - (intOf p).toNat)
  case atStart =>
    exact ⟨2, rfl, Nat.le_refl _, .inr rfl, by rw [frees_two]; exact H1.out.2, H1.out.1⟩
  case round =>
    obtain ⟨k, rfl, hk2, hk, hJ, hrow⟩ := hrel
    by_cases hlt : k < nb
    · have c1 := hrow.cell (i := k) hlt
      cases hm : tm k with
      | true =>
        rw [hm] at c1
        have he : frees tm (k + 1) = frees tm k := by rw [frees_succ, if_neg (by rw [hm]; simp), List.append_nil]
        rw [← he] at hJ
        have HM := hide (And.intro hJ hrow)
        clear hJ hrow he hm
        gi_wp2
        refine ⟨fun _ h => (by cases h), ?_⟩
        gi_wp2
        go_roundw
        case rel => exact ⟨k + 1, by go_num, by omega, .inl (by omega), HM.out.1, HM.out.2⟩
        case measure => simp only [intOf]; omega
      | false =>
        rw [hm] at c1
        have he : frees tm k ++ [k] = frees tm (k + 1) := by rw [frees_succ, if_pos ⟨hk2, hm⟩]
        have hpl : (frees tm k).length < (frees tm nb).length := by
          have := (frees_mono tm (show k + 1 ≤ nb by omega)).length_le
          rw [← he, List.length_append] at this
          simp at this
          omega
        obtain ⟨fn, tmps, assign, body, hyy, hR⟩ := hY _ k _ hJ hpl
        unfold encN at hyy
        rw [he] at hR
        have HM := hide (And.intro hrow hR)
        clear hJ hrow hR he hm hpl
        gi_wp2
        refine ⟨fun h => (by cases h), HM.out.2.mono ?_⟩
        rintro e W3 (⟨rfl, hJ3, hK3⟩ | ⟨rfl, hJx3⟩)
        · have H3 := hide (And.intro hJ3 (hK3.row (by omega) HM.out.1))
          clear hJ3 hK3
          gi_wp2
          go_roundw
          case rel => exact ⟨k + 1, by go_num, by omega, .inl (by omega), H3.out.1, H3.out.2⟩
          case measure => simp only [intOf]; omega
        · have H3 := hide hJx3
          clear hJx3
          gi_wp2
          refine bodyPost_ret (results_none rfl _ _ _) rfl ?_
          exact ⟨⟨_, rfl⟩, .inr ⟨_, frees_mono tm (show k + 1 ≤ nb by omega), H3.out⟩⟩
    · have he : frees tm k = frees tm nb := by
        rcases hk with hk | hk
        · rw [show k = nb by omega]
        · subst hk
          rw [frees_two]
          exact (List.prefix_nil.1 (by have := frees_mono tm (show nb ≤ 2 by omega); rwa [frees_two] at this)).symm
      rw [he] at hJ
      have HM := hide hJ
      clear hJ he hrow
      gi_wp2
      go_end0
      exact ⟨⟨_, rfl⟩, .inl ⟨_, rfl, HM.out⟩⟩
/-- the contract -/
theorem free_stops {w : World} {ar v p D L G ps ho D' L' G' t f nn : Nat} {pg ob : Value} {off : Bool} {A : Arr} {F : Foot} (hA : ArcAt w ar v D' L' G' t f nn pg ob off) (hV : VolAt w v p D L G ps ho) (h : ArrAt w p A F) (hf : A.fit) (hn : 0 < A.n) (P : List Nat) (os : List Ob) (hP : Ints (fun k => k < w.heap.size) w pg P) (hC : Cat (fun k => k < w.heap.size) w ob os)
    (n b1 : Nat) (hb : b1 < w.heap.size) (h1 : w.cell? ⟨b1, 0, none⟩ = some (.pointer (some ⟨ar, 0, none⟩))) :
    SeqStopsK Fence.wide n Tryz.prog 91 #[.pointer (some ⟨b1, 0, none⟩)] encN (KpC w.heap.size) (fun ys => ys = frees (tk A.nb (P ++ allSt os)).1 A.nb) (fun pre => pre <+: frees (tk A.nb (P ++ allSt os)).1 A.nb) (frees (tk A.nb (P ++ allSt os)).1 A.nb).length w := fun l J Jx W hW hJ _ hY h0 => by
  have hKK : ∀ {v : Value} {l : List Nat}, Ints (fun k => k < w.heap.size) W v l → Ints (fun k => k < W.heap.size) W v l := fun ⟨ao, c, q1, q2, q3⟩ => ⟨ao, c, q1, q2, fun hl => by obtain ⟨b, off, r1, r2, r3⟩ := q3 hl; exact ⟨b, off, r1, Nat.lt_of_lt_of_le r2 hW.size, r3⟩⟩
  have hCK : Cat (fun k => k < W.heap.size) W ob os := by
    obtain ⟨ao, c, q1, q2, q3⟩ := hC.keep (KpS.of_below hW)
    refine ⟨ao, c, q1, q2, fun hl => ?_⟩
    obtain ⟨b, off, r1, r2, r3, r4⟩ := q3 hl
    refine ⟨b, off, r1, Nat.lt_of_lt_of_le r2 hW.size, r3, fun i hi => ?_⟩
    obtain ⟨sv, s1, s2, s3, s4⟩ := r4 i hi
    exact ⟨sv, s1, s2, s3, hKK s4⟩
  exact free1_in (hA.keep (hW.block _ hA.lt)) (hV.keep (hW.block _ hV.lt)) (h.below hW (Nat.le_refl _)) hf hn P os (hKK (hP.keep (KpS.of_below hW))) hCK n l b1 w.heap.size hW.size J Jx (fun pre A B h hb => hJ pre A B none h ⟨hb.os, hb.tape, hb.output, hb.size, fun k hk _ => hb.block k hk⟩ (fun r e => by cases e)) hY ((hW.cell (p := ⟨b1, 0, none⟩) hb).trans h1) h0
end Go.Proofs.YtogdeaaphdlchaaGreatDoor
/-
  take: so many blocks in which nothing stands.
-/
namespace Go.Proofs.YtogdeaaphdlchaaGreatDoor
open Go.RowKit Go.Shelf Go.Deep Gf

attribute [local go_sem] Oper.semAt_some
def ivs (l : List Nat) : List Value := l.map fun (x : Nat) => Value.int .i64 (x : Int)
theorem Tryz.infoIntT : (Tryz.prog.info? 3).map (fun i => (i.zero, i.size, i.bytes)) = some (some (.int .i64 0), 1, 8) := by kernel_rfl
/-- between two blocks -/
structure TaI (w : World) (q count B : Nat) (pre : List Nat) (X : World) : Prop where
  cnt : Boxed X w.heap.size 3 (.int .i64 (count : Nat))
  box : Boxed X q 64 (.slice (some ⟨w.heap.size + 1, 0, none⟩) pre.length count)
  own : X.ownsRow (w.heap.size + 1) 3 1 (.slice (some ⟨w.heap.size + 1, 0, none⟩) pre.length count) pre.length (ivs pre)
  below : Below w.heap.size w X
  size : B ≤ X.heap.size
  le : pre.length ≤ count
theorem TaI.own' {w : World} {q count B : Nat} (hB : w.heap.size + 3 ≤ B) (hq : q < B) : OwnFrom B (TaI w q count B) := by
  rintro pre X Y row ⟨h1, h2, h3, h4, h5, h6⟩ hg hr
  have hk : ∀ k, k < B → Y.heap[k]? = X.heap[k]? := fun k hk => hg.block k (by omega) (fun e => by have := (hr k e.symm).1; omega)
  exact ⟨(hk _ (by omega)).trans h1, (hk _ (by omega)).trans h2, own_keep h3 hg fun r e => (hr r e).2, h4.grown hg h4.size (fun k e => by have := (hr k e).1; omega), Nat.le_trans h5 hg.size, h6⟩
/-- behind as many as are asked for -/
def TaX (w : World) (q count B id : Nat) (c : Code) (pre' : List Nat) (X : World) : Prop := c = .exit id ∧ ∃ pre x, pre' = pre ++ [x] ∧ pre.length = count ∧ TaI w q count B pre X
theorem TaX.own' {w : World} {q count B id : Nat} (hB : w.heap.size + 3 ≤ B) (hq : q < B) (c : Code) : OwnFrom B (TaX w q count B id c) := by
  rintro pre' X Y row ⟨h1, pre, x, h2, h3, h4⟩ hg hr
  exact ⟨h1, pre, x, h2, h3, TaI.own' hB hq pre X Y row h4 hg hr⟩
set_option maxRecDepth 100000 in
set_option maxHeartbeats 4000000 in
theorem arcTake_any {w : World} {ar v p D L G ps ho D' L' G' t f nn : Nat} {pg ob : Value} {off : Bool} {A : Arr} {F : Foot} (hA : ArcAt w ar v D' L' G' t f nn pg ob off) (hV : VolAt w v p D L G ps ho) (h : ArrAt w p A F) (hf : A.fit) (hn : 0 < A.n) (P : List Nat) (os : List Ob) (hP : Ints (fun k => k < w.heap.size) w pg P) (hC : Cat (fun k => k < w.heap.size) w ob os) (count : Nat) (hcount : count ≤ 1000000) :
    Calls Tryz.prog 51 #[.pointer (some ⟨ar, 0, none⟩), .int .i64 (count : Nat)] w fun e w' => ∃ u, e = .returned (.tuple #[u, .bool (decide (count ≤ (frees (tk A.nb (P ++ allSt os)).1 A.nb).length))]) ∧
      w'.ownsRow w.heap.size 3 1 u ((frees (tk A.nb (P ++ allSt os)).1 A.nb).take count).length (ivs ((frees (tk A.nb (P ++ allSt os)).1 A.nb).take count)) ∧ Below w.heap.size w w' := by
  obtain ⟨n, HN⟩ : ∃ n : Nat, Hid (9 ≤ n) := ⟨9, Nat.le_refl _⟩
  have H0 := hide (And.intro hA (And.intro hV (And.intro h (And.intro hP hC))))
  clear hA hV h hP hC
  refine (callsIn_wide (n := n)).1 ?_
  refine callsIn_of_wp_marks Tryz.func51 rfl trivial ?_ rfl
  simp only [Tryz.ntmps51, List.size_toArray, List.length_cons, List.length_nil, Nat.reduceAdd, Nat.reduceSub, Array.replicate_succ, Array.replicate_zero, List.push_toArray, List.append_toArray, List.nil_append, List.cons_append]
  obtain ⟨i0, hi0, hz0, hz1, hz2⟩ := info_parts Tryz.infoIntT
  have hz1' : (w.alloc (.cells #[.int .i64 (count : Int)] 3)).heap.size = w.heap.size + 1 := by simp
  have hbA : Below w.heap.size w (w.alloc (.cells #[.int .i64 (count : Int)] 3)) := (Below.refl _ w).alloc (Nat.le_refl _) _
  have hBA : Boxed (w.alloc (.cells #[.int .i64 (count : Int)] 3)) w.heap.size 3 (.int .i64 (count : Nat)) := Boxed.new w _ _
  have HA := hide (And.intro hz1' (And.intro hbA hBA))
  clear hz1' hbA hBA
  gi_wp2_with (gi_at_make; refine wpListIn_make_own _ rfl (.const (.int .i64 0)) (.tmp 8) 64 rfl (w.heap.size + 1) 3 i0 (.int .i64 0) 1 Tryz.underlying64 hi0 hz0 hz1 .i64 .i64 _ count (by rfl) (by rfl) rfl (by rw [hz2]; omega) (by unfold maxLen; omega) (by rw [HA.out.1]; exact Nat.le_refl _) ?_; intro w2 hown hgr)
  rw [HA.out.1] at hown
  have hz2' := hgr.size
  rw [HA.out.1] at hz2'
  have hrl : w.heap.size + 1 < w2.heap.size := (hown.lt (w.heap.size + 1) rfl).2
  have hbw2 : Below w.heap.size w w2 := HA.out.2.1.grown hgr (by rw [HA.out.1]; omega) (fun k e => by cases e)
  have hcnt2 : Boxed w2 w.heap.size 3 (.int .i64 (count : Nat)) := (hgr.block _ (by rw [HA.out.1]; omega) (by simp)).trans HA.out.2.2
  have hbox3 : Boxed (w2.alloc (.cells #[.slice (some ⟨w.heap.size + 1, 0, none⟩) 0 count] 64)) w2.heap.size 64 (.slice (some ⟨w.heap.size + 1, 0, none⟩) 0 count) := Boxed.new w2 _ _
  have hb3 : Below w2.heap.size w2 (w2.alloc (.cells #[.slice (some ⟨w.heap.size + 1, 0, none⟩) 0 count] 64)) := (Below.refl _ w2).alloc (Nat.le_refl _) _
  have hz3 : (w2.alloc (.cells #[.slice (some ⟨w.heap.size + 1, 0, none⟩) 0 count] 64)).heap.size = w2.heap.size + 1 := by simp
  obtain ⟨w3, hw3⟩ : ∃ w3, w2.alloc (.cells #[.slice (some ⟨w.heap.size + 1, 0, none⟩) 0 count] 64) = w3 := ⟨_, rfl⟩
  rw [hw3] at hbox3 hb3 hz3 ⊢
  refine at_wide (arcFree_any ar w3) ?_
  rintro e w' ⟨rfl, rfl⟩
  have h5 : (w3.alloc (.cells #[.pointer (some ⟨ar, 0, none⟩)] 51)).cell? ⟨w3.heap.size, 0, none⟩ = some (.pointer (some ⟨ar, 0, none⟩)) := (Boxed.new w3 _ _).cell
  have hz5 : (w3.alloc (.cells #[.pointer (some ⟨ar, 0, none⟩)] 51)).heap.size = w3.heap.size + 1 := by simp
  have hb5 : Below w3.heap.size w3 (w3.alloc (.cells #[.pointer (some ⟨ar, 0, none⟩)] 51)) := (Below.refl _ w3).alloc (Nat.le_refl _) _
  obtain ⟨w5, hw5⟩ : ∃ w5, w3.alloc (.cells #[.pointer (some ⟨ar, 0, none⟩)] 51) = w5 := ⟨_, rfl⟩
  have hb25 : Below w2.heap.size w2 w5 := by rw [← hw5]; exact hb3.trans (hb5.mono hb3.size)
  have hb05 : Below w.heap.size w w5 := hbw2.trans (hb25.mono (by omega))
  have hi5 : TaI w w2.heap.size count w5.heap.size [] w5 := ⟨(hb25.block _ (by omega)).trans hcnt2, by rw [← hw5]; exact (hb5.block _ (by omega)).trans hbox3, ownsRow_below hown hb25, hb05, Nat.le_refl _, Nat.zero_le _⟩
  have hs5 : w5.heap.size = w2.heap.size + 2 := by rw [← hw5, hz5, hz3]
  have HI5 := hide (And.intro h5 (And.intro hi5 (And.intro hb05 (And.intro hz3 hs5))))
  clear h5 hi5 hz5 hb5 hb25 hb05 hs5 hbox3 hb3 hz3 hown hgr hbw2 hcnt2
  gi_wp2
  rw [hw5] at HI5
  clear hw5 hw3
  obtain ⟨hs1, hs2, hs3, hs4⟩ : w3.heap.size ≤ w2.heap.size + 1 ∧ w2.heap.size + 1 ≤ w3.heap.size ∧ w5.heap.size ≤ w2.heap.size + 2 ∧ w2.heap.size + 2 ≤ w5.heap.size := by have := HI5.out.2.2.2; omega
  have hbel := HI5.out.2.2.1
  obtain ⟨hA, hV, h, hP, hC⟩ := H0.out
  have hKK : ∀ {v : Value} {l : List Nat}, Ints (fun k => k < w.heap.size) w5 v l → Ints (fun k => k < w5.heap.size) w5 v l := fun ⟨ao, c, q1, q2, q3⟩ => ⟨ao, c, q1, q2, fun hl => by obtain ⟨b, off, r1, r2, r3⟩ := q3 hl; exact ⟨b, off, r1, Nat.lt_of_lt_of_le r2 hbel.size, r3⟩⟩
  have hP5 := hKK (hP.keep (KpS.of_below hbel))
  have hC5 : Cat (fun k => k < w5.heap.size) w5 ob os := by
    obtain ⟨ao, c, q1, q2, q3⟩ := hC.keep (KpS.of_below hbel)
    refine ⟨ao, c, q1, q2, fun hl => ?_⟩
    obtain ⟨b, off, r1, r2, r3, r4⟩ := q3 hl
    refine ⟨b, off, r1, Nat.lt_of_lt_of_le r2 hbel.size, r3, fun i hi => ?_⟩
    obtain ⟨sv, s1, s2, s3, s4⟩ := r4 i hi
    exact ⟨sv, s1, s2, s3, hKK s4⟩
  have hst := free_stops (hA.keep (hbel.block _ hA.lt)) (hV.keep (hbel.block _ hV.lt)) (h.below hbel (Nat.le_refl _)) hf hn P os hP5 hC5 (n - 1) w3.heap.size (by omega) HI5.out.1
  obtain ⟨fr, hfr⟩ : ∃ fr, frees (tk A.nb (P ++ allSt os)).1 A.nb = fr := ⟨_, rfl⟩
  rw [hfr] at hst
  have HFR := hide hfr
  have HST := hide hst
  clear hfr hst hP5 hC5 hKK hA hV h hP hC
  refine wpIn_rangeFunc_ownG rfl (by have := HN.out; omega) (gf := 91) (lb := #[.pointer (some ⟨w3.heap.size, 0, none⟩)]) rfl trivial (enters_of Tryz.func91 (by kernel_rfl) rfl)
    HST.out (fun h k => h.trans k) (fun W l o o' hl ho hc _ => ⟨by simp [World.putObj], fun k o2 _ hk hc2 => (World.putObj_heap_other (fun e => by subst e; rw [hk] at ho; cases ho; rw [hc] at hc2; cases hc2)).trans hk⟩) (Below.refl _ _) (fun _ => rfl)
    (TaI w w2.heap.size count w5.heap.size) (TaX w w2.heap.size count w5.heap.size 0) (TaI.own' (by omega) (by omega)) (TaX.own' (by omega) (by omega)) HI5.out.2.1
    (fun x => { tmps := #[.pointer (some ⟨ar, 0, none⟩), .int .i64 (count : Nat), undef, .pointer (some ⟨w.heap.size, 0, none⟩), .slice none 0 0, .bool false, .pointer (some ⟨w2.heap.size, 0, none⟩), .int .i64 (x : Nat), .int .i64 (count : Nat), .slice (some ⟨w.heap.size + 1, 0, none⟩) 0 count, .pointer (some ⟨ar, 0, none⟩), .func (.func 91) #[] #[.pointer (some ⟨w3.heap.size, 0, none⟩)], .int .i64 (x : Nat), undef, undef, undef, undef, undef, undef, undef, undef, undef, undef, undef, undef, undef], defers := [] }) ?assign ?body ?done ?stop
  case assign =>
    intro l2 x X Kk hK
    unfold encN
    gi_wp2
    exact hK
  case body =>
    rintro l2 pre x X hi hlen
    have c1 := hi.cnt.cell
    have c2 := hi.box.cell
    have hle := hi.le
    by_cases hfull : pre.length = count
    · have e1 : ((pre.length : Nat) : Int) = ((count : Nat) : Int) := by omega
      have HX := hide hi
      clear hi
      rw [hfull] at c2
      gi_wp2
      exact ⟨KeepsFrom.refl _ _, rfl, pre, x, rfl, hfull, HX.out⟩
    · have e1 : ¬ ((pre.length : Nat) : Int) = ((count : Nat) : Int) := by omega
      obtain ⟨pl, hpl⟩ : ∃ pl, pre.length = pl := ⟨_, rfl⟩
      have HO : Hid ((X.alloc (.cells #[.int .i64 (x : Nat)] 3)).ownsRow (w.heap.size + 1) 3 1 (.slice (some ⟨w.heap.size + 1, 0, none⟩) pl count) pl (ivs pre)) := hide (by have := ownsRow_below hi.own ((Below.refl _ X).alloc (Nat.le_refl _) (.cells #[.int .i64 (x : Nat)] 3)); rwa [hpl] at this)
      have hnew : ∀ j u, [Value.int .i64 ((x : Nat) : Int)][j]? = some u → (X.alloc (.cells #[.int .i64 (x : Nat)] 3)).cell? ((⟨X.heap.size, 0, none⟩ : Addr).add j) = some u := one_made X (.int .i64 (x : Nat)) 3
      have HNW := hide hnew
      have hq2 : w2.heap.size < X.heap.size := by have := hi.size; omega
      have HX := hide (And.intro hi hpl)
      rw [hpl] at c2 e1 hle
      have hbq : Boxed X w2.heap.size 64 (.slice (some ⟨w.heap.size + 1, 0, none⟩) pl count) := by have := hi.box; rwa [hpl] at this
      have HBQ := hide hbq
      clear hi hnew hbq hfull hpl
      gi_wp2_with (
        gi_at_builtin;
        refine wpListIn_append_fits _ rfl (.tmp 17) (.tmp 19) 64 rfl (w.heap.size + 1) 3 i0 1 Tryz.underlying64 hi0 hz1 (w.heap.size + 1) pl count (ivs pre) (by rfl) (by exact HO.out) ⟨X.heap.size, 0, none⟩ 1 1 [.int .i64 (x : Nat)] (by rfl) rfl (by exact HNW.out) (fun u hu => by simp at hu; subst hu; rfl) (by omega) ?_;
        intro w6 hown6 hgr6;
        have hB6 : Boxed w6 w2.heap.size 64 (.slice (some ⟨w.heap.size + 1, 0, none⟩) pl count) := (hgr6.block _ (by simp; omega) (fun e => by have := Option.some.inj e; omega)).trans ((blk_alloc_lt _ _ _ hq2).trans HBQ.out);
        have d0 := hB6.cell;
        have f0 := hB6.frozen)
      obtain ⟨hi, hpl⟩ := HX.out
      have hg6 : ∀ k, k < X.heap.size → k ≠ w.heap.size + 1 → w6.heap[k]? = X.heap[k]? := fun k hk hne => (hgr6.block k (by simp; omega) (fun e => hne (Option.some.inj e))).trans (blk_alloc_lt _ _ _ hk)
      have hsz6 := hgr6.size
      simp only [World.size_alloc] at hsz6
      have hgS : ∀ k, k ≠ w2.heap.size → (w6.setCell ⟨w2.heap.size, 0, none⟩ (.slice (some ⟨w.heap.size + 1, 0, none⟩) (pl + 1) count)).heap[k]? = w6.heap[k]? := fun k hk => blk_setCell_other _ _ _ _ hk
      have hlen' : (pre ++ [x]).length = pl + 1 := by rw [List.length_append, hpl]; rfl
      have hivs : ivs (pre ++ [x]) = ivs pre ++ [.int .i64 (x : Nat)] := by unfold ivs; rw [List.map_append]; rfl
      refine ⟨⟨by simp [World.setCell]; omega, fun k o hk ho _ => ?_⟩, ⟨by simp [World.setCell]; omega, fun k o hk ho _ => ?_⟩, ?_, ?_, ?_, ?_, ?_, ?_⟩
      · exact ((hgS k (by omega)).trans (hg6 k (Array.getElem?_eq_some_iff.1 ho).1 (by omega))).trans ho
      · exact ((hgS k (by omega)).trans (hg6 k (Array.getElem?_eq_some_iff.1 ho).1 (by omega))).trans ho
      · exact ((hgS _ (by omega)).trans (hg6 _ (by omega) (by omega))).trans hi.cnt
      · rw [hlen']; exact hB6.set _
      · rw [hlen', hivs]; exact hown6.kept (grown_setC w6 w2.heap.size 0 _) (.inr fun e => by have q : w.heap.size + 1 = w2.heap.size := Option.some.inj e; omega)
      · refine Below.setCell (p := ⟨w2.heap.size, 0, none⟩) ?_ (by show w.heap.size ≤ w2.heap.size; omega) _
        exact ⟨hgr6.os.trans hi.below.os, hgr6.tape.trans hi.below.tape, hgr6.output.trans hi.below.output, by have := hi.below.size; omega, fun k hk => (hg6 k (by have := hi.below.size; omega) (by omega)).trans (hi.below.block k hk)⟩
      · have := hi.size; simp [World.setCell]; omega
      · rw [hlen']; omega
  case done =>
    rintro D1 xs X hD1 hxs hi hK
    have hxs' : xs = fr := hxs
    subst hxs'
    have c1 := hi.cnt.cell
    have c2 := hi.box.cell
    have hle := hi.le
    have HX := hide (And.intro hi hK)
    clear hi hK hxs
    obtain ⟨xl, hxl⟩ : ∃ xl, xs.length = xl := ⟨_, rfl⟩
    rw [hxl] at c2 hle
    have HL := hide hxl
    clear hxl
    gi_wp2
    gi_region
    gi_wp2
    obtain ⟨hi, hK⟩ := HX.out
    have hxl := HL.out
    have hK' : X.drew.heap[D1]? = some (.deferred (some [])) := hK
    have htk : xs.take count = xs := List.take_of_length_le (by omega)
    have hbb : decide (count ≤ xs.length) = (((xl : Nat) : Int) == ((count : Nat) : Int)) := by
      by_cases e : xl = count
      · rw [decide_eq_true (by omega)]; subst e; simp
      · rw [decide_eq_false (by omega)]
        have : ¬ ((xl : Nat) : Int) = ((count : Nat) : Int) := by omega
        simp [this]
    rw [HFR.out, htk, hbb]
    refine end_tmp2 (t := 4) (u := 5) (x := .slice (some ⟨w.heap.size + 1, 0, none⟩) xl count) (y := .bool (((xl : Nat) : Int) == ((count : Nat) : Int))) Tryz.results51 rfl rfl rfl hK' ⟨_, rfl, ?_, ?_⟩
    · have ho := hi.own
      rw [hxl] at ho
      have ho' : X.drew.ownsRow (w.heap.size + 1) 3 1 (.slice (some ⟨w.heap.size + 1, 0, none⟩) xl count) xl (ivs xs) := ownsRow_below ho ((Below.refl _ X).drew)
      rw [hxl]
      exact ownsRow_weaken (own_keep ho' (grownBy_putObj' X.drew D1 (.deferred none)) fun r e => by cases e; exact ⟨_, hK', rfl⟩) (by omega)
    · exact Below.putObj' hi.below.drew (by omega) (Array.getElem?_eq_some_iff.1 hK').1 _
  case stop =>
    rintro D1 cc pre X hD1 hpre ⟨rfl, pre1, x, rfl, hcl, hi⟩ hK
    have c1 := hi.cnt.cell
    have c2 := hi.box.cell
    have HX := hide (And.intro hi hK)
    rw [hcl] at c2
    clear hi hK
    gi_wp2
    gi_region
    gi_wp2
    obtain ⟨hi, hK⟩ := HX.out
    have hK' : X.drew.heap[D1]? = some (.deferred (some [])) := hK
    obtain ⟨rr, hrr⟩ := hpre
    have htk : fr.take count = pre1 := by rw [← hrr, List.append_assoc, List.take_append_of_le_length (by omega), List.take_of_length_le (by omega)]
    have hge : count ≤ fr.length := by rw [← hrr]; simp; omega
    rw [HFR.out, htk, decide_eq_true hge]
    refine end_tmp2 (t := 4) (u := 5) (x := .slice (some ⟨w.heap.size + 1, 0, none⟩) count count) (y := .bool true) Tryz.results51 rfl rfl rfl hK' ⟨_, rfl, ?_, ?_⟩
    · have ho := hi.own
      rw [hcl] at ho
      have ho' : X.drew.ownsRow (w.heap.size + 1) 3 1 (.slice (some ⟨w.heap.size + 1, 0, none⟩) count count) count (ivs pre1) := ownsRow_below ho ((Below.refl _ X).drew)
      rw [hcl]
      exact ownsRow_weaken (own_keep ho' (grownBy_putObj' X.drew D1 (.deferred none)) fun r e => by cases e; exact ⟨_, hK', rfl⟩) (by omega)
    · exact Below.putObj' hi.below.drew (by omega) (Array.getElem?_eq_some_iff.1 hK').1 _
end Go.Proofs.YtogdeaaphdlchaaGreatDoor
/-
  writePages: the bytes of a catalog, page behind page.
-/
namespace Go.Proofs.YtogdeaaphdlchaaGreatDoor
open Go.RowKit Go.Shelf Go.Deep Gf

/-- a page: the number of the next one, and its part of the bytes -/
def pageB (D : Nat) (P l : List Nat) (k : Nat) : List Nat := be (P.getD (k + 1) 0) 4 ++ (l.drop (k * (D * 44 - 4))).take (D * 44 - 4)
/-- the array behind k pages -/
def Arr.pagesTo (A : Arr) (D L G : Nat) (P l : List Nat) : Nat → Arr
  | 0 => A
  | k + 1 => (Arr.pagesTo A D L G P l k).putAt (List.range A.n) (P.getD k 0) (fun i => (Rec.shard ((stripeL D L G (pageB D P l k)).getD i [])).blk)
theorem pagesTo_n (A : Arr) (D L G : Nat) (P l : List Nat) : ∀ k, (A.pagesTo D L G P l k).n = A.n ∧ (A.pagesTo D L G P l k).nb = A.nb ∧ (A.pagesTo D L G P l k).wait = A.wait ∧ (A.pagesTo D L G P l k).lost = A.lost
  | 0 => ⟨rfl, rfl, rfl, rfl⟩
  | k + 1 => pagesTo_n A D L G P l k
theorem pagesTo_fit {A : Arr} (h : A.fit) {D L G : Nat} (hD : D ≤ 12) (hG : G ≤ 4) (hn : A.n = D + L + G) (P l : List Nat) : ∀ k, (A.pagesTo D L G P l k).fit
  | 0 => h
  | k + 1 => (pagesTo_fit h hD hG hn P l k).putAt _ _ _ fun i hi => by
      rw [List.mem_range, hn] at hi
      have hi' : i < (stripeL D L G (pageB D P l k)).length := by rw [stripeL_len]; exact hi
      have e : (stripeL D L G (pageB D P l k)).getD i [] = (stripeL D L G (pageB D P l k))[i] := by simp [hi']
      have hok : (Rec.shard ((stripeL D L G (pageB D P l k)).getD i [])).ok := by rw [e]; exact stripeL_row hD hG _ i hi'
      exact ⟨blk_len hok, blk_lt hok⟩
theorem pageB_len {D : Nat} (hD1 : 1 ≤ D) (P l : List Nat) (k : Nat) : (pageB D P l k).length ≤ D * 44 := by
  unfold pageB
  rw [List.length_append, be_len, List.length_take]
  omega
theorem pageB_lt {D : Nat} {l : List Nat} (hl : ∀ x ∈ l, x < 256) (P : List Nat) (k : Nat) : ∀ x ∈ pageB D P l k, x < 256 := by
  intro x hx
  unfold pageB at hx
  rw [List.mem_append] at hx
  rcases hx with hx | hx
  · exact be_lt _ _ x hx
  · exact hl x (List.mem_of_mem_drop (List.mem_of_mem_take hx))
theorem own_outside {w w' : World} {base n : Nat} {e : TypeId} {size : Nat} {v : Value} {xs : List Value} {S : Nat → Prop} (h : w.ownsRow base e size v n xs) (hO : Outside S w w') (hS : ∀ k, S k → k < base) : w'.ownsRow base e size v n xs := by
  refine ⟨h.1, ?_⟩
  rcases h.2 with h0 | ⟨g, cap, cur, e1, e2, e3, r⟩
  · exact .inl h0
  · exact .inr ⟨g, cap, cur, e1, e2, (hO.block g (Array.getElem?_eq_some_iff.1 e3).1 (fun q => by have := hS g q; omega)).trans e3, r⟩
theorem KpS.of_outside {S : Nat → Prop} {w w' : World} (h : Outside S w w') : KpS (fun k => ¬ S k) w w' := ⟨h.size, fun k hk hn => h.block k hk hn⟩
theorem ints_at {K : Nat → Prop} {w : World} {v : Value} {l : List Nat} (h : Ints K w v l) (hl : l ≠ []) : ∃ b off c, v = .slice (some ⟨b, off, none⟩) l.length c ∧ ∀ i (hi : i < l.length), w.cell? ⟨b, off + i, none⟩ = some (.int .i64 ((l[i] : Nat) : Int)) := by
  obtain ⟨ao, c, rfl, _, h3⟩ := h
  obtain ⟨b, off, rfl, _, _, h4⟩ := h3 hl
  exact ⟨b, off, c, rfl, h4⟩
theorem Tryz.infoByteP : (Tryz.prog.info? 5).map (fun i => (i.zero, i.size, i.bytes)) = some (some (.int .u8 0), 1, 1) := by kernel_rfl
set_option maxRecDepth 100000 in
set_option maxHeartbeats 1000000 in
theorem writePages_any {w : World} {ar v p D L G ps ho D' L' G' t f nn : Nat} {pg ob : Value} {off : Bool} {A : Arr} {F : Foot} (hA : ArcAt w ar v D' L' G' t f nn pg ob off) (hV : Vol w v p D L G ps ho A F) (hF : Free F p A.n v) (har : ¬ F.has p A.n ar) (hf : A.fit) (hn : A.n = D + L + G) (hr : rightB D L G = true) (hD1 : 1 ≤ D) (hD : D ≤ 12) (hL : 1 ≤ L) (hL4 : L ≤ 4) (hG : G ≤ 4) (hdiv : D % L = 0) (h16 : D + L + G ≤ 16)
    (hw : A.wait < 0) (hlost : ∀ i, A.lost i = false) (g cap base : Nat) (l : List Nat) (hown : w.ownsRow base 5 1 (.slice (some ⟨g, 0, none⟩) l.length cap) l.length (bts l)) (hlx : ∀ x ∈ l, x < 256) (hll : l.length ≤ 1000000) (hbase : ∀ k, F.has p A.n k → k < base)
    (vp : Value) (P : List Nat) (hP : Ints (fun k => ¬ F.has p A.n k) w vp P) (hPn : ∀ x ∈ P, x < A.nb) (hPl : ∀ k, k < P.length → k * (D * 44 - 4) ≤ l.length) :
    Calls Tryz.prog 74 #[.pointer (some ⟨ar, 0, none⟩), .slice (some ⟨g, 0, none⟩) l.length cap, vp] w fun e w' => e = .returned .nilIface ∧ ArrAt w' p (A.pagesTo D L G P l P.length) F ∧ Outside (F.has p A.n) w w' := by
  obtain ⟨i0, hi0, hz0, hz1, hz2⟩ := info_parts Tryz.infoByteP
  obtain ⟨pa, pc, rfl, hPlen, _⟩ := id hP
  have hpz := pageSize_any hA hV.vol hD1 (by omega)
  obtain ⟨sz, hsz⟩ : ∃ sz, D * 44 - 4 = sz := ⟨_, rfl⟩
  have hszb : 40 ≤ sz ∧ sz ≤ 524 := by omega
  rw [hsz] at hpz
  have hnb := hf.nb
  have H0 := hide (And.intro hA (And.intro hV (And.intro hown hP)))
  clear hA hV hown hP
  go_enter Tryz.func74, Tryz.ntmps74
  go_wp2_with fail
  refine hpz.mono ?_
  rintro e w1 ⟨rfl, rfl⟩
  clear hpz
  go_wp2
  go_loopw [17] (fun i wr => ∃ k : Nat, i = .int .i64 (k : Nat) ∧ k ≤ P.length ∧ ArrAt wr p (A.pagesTo D L G P l k) F ∧ Outside (F.has p A.n) w1 wr) (fun i _ => P.length - (intOf i).toNat)
  case atStart => exact ⟨0, rfl, Nat.zero_le _, H0.out.2.1.arr, Outside.refl _ _⟩
  case round =>
    obtain ⟨k, rfl, hk, hAr, hO⟩ := hrel
    by_cases hlt : k < P.length
    · obtain ⟨hA, hV, hown, hP⟩ := H0.out
      have hPr := hP.keep (KpS.of_outside hO)
      obtain ⟨b, bo, c', e1, hat⟩ := ints_at hPr (fun e => by rw [e] at hlt; simp at hlt)
      simp only [Value.slice.injEq] at e1
      obtain ⟨rfl, _, rfl⟩ := e1
      have c1 := hat k hlt
      obtain ⟨y, hy⟩ : ∃ y, P[k] = y := ⟨_, rfl⟩
      rw [hy] at c1
      have hynb : y < A.nb := by rw [← hy]; exact hPn _ (List.getElem_mem hlt)
      obtain ⟨nx, hnx⟩ : ∃ nx, P.getD (k + 1) 0 = nx := ⟨_, rfl⟩
      have hnxc : (k + 1 < P.length ∧ wr.cell? ⟨b, bo + (k + 1), none⟩ = some (.int .i64 (nx : Nat))) ∨ (¬ k + 1 < P.length ∧ nx = 0) := by
        by_cases h1 : k + 1 < P.length
        · have := hat (k + 1) h1
          have e : P.getD (k + 1) 0 = P[k + 1] := by simp [h1]
          rw [← e, hnx] at this
          exact .inl ⟨h1, this⟩
        · exact .inr ⟨h1, by rw [← hnx]; simp [show P.length ≤ k + 1 by omega]⟩
      have hnxl : nx < 1000001 := by
        rcases Nat.lt_or_ge (k + 1) P.length with h1 | h1
        · have e : P.getD (k + 1) 0 = P[k + 1] := by simp [h1]
          rw [← hnx, e]; have := hPn _ (List.getElem_mem h1); omega
        · rw [← hnx]; simp [h1]
      have hpn := pagesTo_n A D L G P l k
      have hVr : Vol wr v p D L G ps ho (A.pagesTo D L G P l k) F := hV.turn hF hO hAr
      have hownr := own_outside hown hO hbase
      have hAk := hA.keep (hO.block _ hA.lt har)
      obtain ⟨ca, _⟩ := hAk.cells
      have H1 := hide (And.intro hAr (And.intro hO (And.intro hVr (And.intro hownr (And.intro hpn (And.intro hAk (And.intro hnx hy)))))))
      clear hAr hO hVr hownr hpn hAk hnx hy hat hPr hA hV hown hP
      have hpk := hPl k hlt
      rw [hsz] at hpk
      have hcap : l.length ≤ cap := by
        rcases H1.out.2.2.2.1.2 with ⟨e, _⟩ | ⟨g', cap', cur, e, _, _, hc, _⟩
        · cases e
        · simp only [Value.slice.injEq] at e; omega
      have hk1s : (k + 1) * sz = k * sz + sz := Nat.succ_mul k sz
      have hm1 : (k : Int) * (sz : Int) = ((k * sz : Nat) : Int) := by rw [Int.natCast_mul]
      have hm2 : ((k : Int) + 1) * (sz : Int) = (((k + 1) * sz : Nat) : Int) := by rw [Int.natCast_mul]; rfl
      obtain ⟨ks, hks⟩ : ∃ ks, k * sz = ks := ⟨_, rfl⟩
      obtain ⟨ks1, hks1⟩ : ∃ ks1, (k + 1) * sz = ks1 := ⟨_, rfl⟩
      rw [hks] at hm1 hk1s hpk
      rw [hks1] at hm2 hk1s
      obtain ⟨bb, hbb⟩ : ∃ bb, min ks1 l.length = bb := ⟨_, rfl⟩
      have hb1 : ks ≤ bb := by omega
      have hb2 : bb ≤ cap := by omega
      have hb3 : bb - ks ≤ 524 := by omega
      have hchl : ((l.drop ks).take sz).length = bb - ks := by rw [List.length_take, List.length_drop]; omega
      have hmin : ∀ ats ty w, (Builtin.min_ ats ty #[.int .i64 (ks1 : Nat), .int .i64 (l.length : Nat)]).run Tryz.prog w = .ok (.int .i64 (bb : Nat)) w := fun ats ty w => by
        rw [run_min_int]
        by_cases h1 : ((l.length : Nat) : Int) < ((ks1 : Nat) : Int)
        · rw [if_pos h1, show bb = l.length by omega]
        · rw [if_neg h1, show bb = ks1 by omega]
      have hsrcW : ∀ W : World, W.ownsRow base 5 1 (.slice (some ⟨g, 0, none⟩) l.length cap) l.length (bts l) → Src Tryz.prog 1 166 (.slice (if cap = ks then some ⟨g, 0, none⟩ else some ⟨g, ks, none⟩) (bb - ks) (cap - ks)) (bb - ks) (bts ((l.drop ks).take sz)) W := fun W hW => by
        have hrg : W.rangeAt g 0 (bts l) := fun j u hu => by have := hW.cells (g := g) rfl j u hu; rw [add0] at this; rw [Nat.zero_add]; exact this
        by_cases hck : cap = ks
        · have h0 : (l.drop ks).take sz = [] := List.eq_nil_of_length_eq_zero (by omega)
          rw [if_pos hck, h0, show bb - ks = 0 by omega]
          exact Src.ofSlice W Tryz.underlying166 ⟨g, 0, none⟩ 0 (cap - ks) (bts []) rfl (fun j u hu => by simp [bts] at hu) (fun u hu => by simp [bts] at hu)
        · rw [if_neg hck]
          have hr2 := range_take sz (range_drop ks hrg)
          rw [Nat.zero_add] at hr2
          exact Src.ofSlice W Tryz.underlying166 ⟨g, ks, none⟩ (bb - ks) (cap - ks) _ (by rw [bts_len, hchl, Nat.mul_one]) (fun j u hu => by rw [Addr.add_mid]; exact hr2 j u hu) (fun u hu => by unfold bts at hu; rw [List.mem_map] at hu; obtain ⟨x, _, rfl⟩ := hu; rfl)
      have hpage : ∀ (W : World) (u : Value), W.ownsRow wr.heap.size 5 1 u (0 + 4 + (bb - ks)) ([] ++ bts (be nx 4) ++ bts ((l.drop ks).take sz)) → Bs W u (pageB D P l k) := fun W u hu => by
        have e : [] ++ bts (be nx 4) ++ bts ((l.drop ks).take sz) = bts (pageB D P l k) := by
          unfold pageB
          rw [hsz, hks, H1.out.2.2.2.2.2.2.1, bts_append, List.nil_append]
        rw [e] at hu
        exact Bs.of_owns hu (pageB_lt hlx P k) (Nat.le_trans (pageB_len hD1 P l k) (by omega))
      have hcallW : ∀ (W : World) (u : Value), Below wr.heap.size wr W → Bs W u (pageB D P l k) → Calls Tryz.prog 94 #[.pointer (some ⟨v, 0, none⟩), .int .i64 (y : Nat), u] W fun e w' => e = .returned .nilIface ∧ ArrAt w' p (A.pagesTo D L G P l (k + 1)) F ∧ Outside (F.has p A.n) w1 w' := fun W u hW hu => by
        obtain ⟨q1, q2, q3, q4, q5, q6, q7, q8⟩ := H1.out
        have hVW := q3.below hW (Nat.le_refl _)
        have hF' : Free F p (A.pagesTo D L G P l k).n v := by rw [q5.1]; exact hF
        have hc := writeStripe_ok hVW hF' (pagesTo_fit hf hD hG hn P l k) (by rw [q5.1]; exact hn) hr hD1 hD hL hL4 hG hdiv h16 y (by rw [q5.2.1]; exact hynb) (by rw [q5.2.2.1]; exact hw) (fun i => by rw [q5.2.2.2]; exact hlost i) u (pageB D P l k) hu (pageB_len hD1 P l k)
        rw [q5.1] at hc
        refine hc.mono ?_
        rintro e w' ⟨rfl, hA', hO'⟩
        refine ⟨rfl, ?_, q2.trans ((Outside.of_all hW _).trans hO')⟩
        have ey : P.getD k 0 = y := by rw [← q8]; simp [hlt]
        show ArrAt w' p ((A.pagesTo D L G P l k).putAt (List.range A.n) (P.getD k 0) (fun i => (Rec.shard ((stripeL D L G (pageB D P l k)).getD i [])).blk)) F
        rw [ey]; exact hA'
      have HPC := hide (And.intro hpage hcallW)
      clear hpage hcallW
      have HK := hide (And.intro hks (And.intro hks1 (And.intro hbb (And.intro hchl (And.intro hpk hk1s)))))
      have hnw : IntKind.u64.wrap (nx : Int) = (nx : Int) := by rw [IntKind.wrap_u64]; omega
      have hks6 : ks ≤ 1000000 ∧ ks1 ≤ 1000524 ∧ bb ≤ 1000000 := by omega
      clear hks hks1 hbb hchl hk1s
      rcases hnxc with ⟨h1, c2⟩ | ⟨h1, hn0⟩
      · have h1' : (k : Int) + 1 < ((P.length : Nat) : Int) := by omega
        go_wp2_with fail
        refine (append_num wr.heap.size (.slice none 0 0) 0 [] nx 4 wr (World.ownsRow_nil _ _ _ _) (Nat.le_refl _) (by decide) (by decide)).mono ?_
        rintro e w2 ⟨v2, rfl, ho2, hO2, hat2⟩
        have hO2' : Below wr.heap.size wr w2 := ⟨hO2.os, hO2.tape, hO2.output, hO2.size, fun k hk => hO2.block k hk (fun e => by simp [Value.ownBlock] at e)⟩
        have hown2 := ownsRow_below H1.out.2.2.2.1 hO2'
        have hAk2 := H1.out.2.2.2.2.2.1.keep (hO2'.block _ H1.out.2.2.2.2.2.1.lt)
        obtain ⟨cb, _⟩ := hAk2.cells
        have hsrc : Src Tryz.prog 1 166 (.slice (if cap = ks then some ⟨g, 0, none⟩ else some ⟨g, ks, none⟩) (bb - ks) (cap - ks)) (bb - ks) (bts ((l.drop ks).take sz)) w2 := hsrcW w2 hown2
        have H2 := hide (And.intro ho2 (And.intro hO2' (And.intro hsrc (And.intro hown2 hat2))))
        clear ho2 hO2 hO2' hsrc hown2 hat2 hAk2
        go_wp2_with (
          at_builtin;
          refine wpList_append_from _ rfl (.tmp 35) (.tmp 47) 166 166 rfl wr.heap.size 5 i0 (.int .u8 0) 1 1 Tryz.underlying166 hi0 hz0 hz1 hz2 rfl v2 (0 + 4) ([] ++ bts (be nx 4)) (by rfl) (by exact H2.out.1) _ (by rfl) (bb - ks) (bts ((l.drop ks).take sz)) (by exact H2.out.2.2.1) (by unfold maxLen; omega) (by omega) (by exact H2.out.2.1.size) ?_;
          intro v3 w3 ho3 hg3 hat3;
          have hb3 : Below wr.heap.size wr w3 := H2.out.2.1.grown hg3 H2.out.2.1.size (fun k e => (H2.out.1.lt k e).1);
          have hAk3 := H1.out.2.2.2.2.2.1.keep (hb3.block _ H1.out.2.2.2.2.2.1.lt);
          obtain ⟨cc, _⟩ := hAk3.cells;
          have H3 := hide (And.intro ho3 hb3);
          clear ho3 hb3 hg3 hat3 hAk3)
        all_goals
          refine (HPC.out.2 w3 v3 H3.out.2 (HPC.out.1 w3 v3 H3.out.1)).mono ?_
          rintro e w4 ⟨rfl, hA4, hO4⟩
          have H4 := hide (And.intro hA4 hO4)
          clear hA4 hO4
          go_wp2
          first
            | exact ⟨⟨k + 1, by go_num, by omega, H4.out.1, H4.out.2⟩, by simp only [intOf]; omega⟩
            | (have hck : cap = ks := by assumption
               subst hck
               go_roundw
               case rel => exact ⟨k + 1, by go_num, by omega, H4.out.1, H4.out.2⟩
               case measure =>
                 show P.length - ((k : Int) + 1).toNat < P.length - ((k : Nat) : Int).toNat
                 omega)
      · have h1' : ¬ (k : Int) + 1 < ((P.length : Nat) : Int) := by omega
        subst hn0
        go_wp2_with fail
        refine (append_num wr.heap.size (.slice none 0 0) 0 [] 0 4 wr (World.ownsRow_nil _ _ _ _) (Nat.le_refl _) (by decide) (by decide)).mono ?_
        rintro e w2 ⟨v2, rfl, ho2, hO2, hat2⟩
        have hO2' : Below wr.heap.size wr w2 := ⟨hO2.os, hO2.tape, hO2.output, hO2.size, fun k hk => hO2.block k hk (fun e => by simp [Value.ownBlock] at e)⟩
        have hown2 := ownsRow_below H1.out.2.2.2.1 hO2'
        have hAk2 := H1.out.2.2.2.2.2.1.keep (hO2'.block _ H1.out.2.2.2.2.2.1.lt)
        obtain ⟨cb, _⟩ := hAk2.cells
        have hsrc : Src Tryz.prog 1 166 (.slice (if cap = ks then some ⟨g, 0, none⟩ else some ⟨g, ks, none⟩) (bb - ks) (cap - ks)) (bb - ks) (bts ((l.drop ks).take sz)) w2 := hsrcW w2 hown2
        have H2 := hide (And.intro ho2 (And.intro hO2' (And.intro hsrc (And.intro hown2 hat2))))
        clear ho2 hO2 hO2' hsrc hown2 hat2 hAk2
        go_wp2_with (
          at_builtin;
          refine wpList_append_from _ rfl (.tmp 35) (.tmp 47) 166 166 rfl wr.heap.size 5 i0 (.int .u8 0) 1 1 Tryz.underlying166 hi0 hz0 hz1 hz2 rfl v2 (0 + 4) ([] ++ bts (be 0 4)) (by rfl) (by exact H2.out.1) _ (by rfl) (bb - ks) (bts ((l.drop ks).take sz)) (by exact H2.out.2.2.1) (by unfold maxLen; omega) (by omega) (by exact H2.out.2.1.size) ?_;
          intro v3 w3 ho3 hg3 hat3;
          have hb3 : Below wr.heap.size wr w3 := H2.out.2.1.grown hg3 H2.out.2.1.size (fun k e => (H2.out.1.lt k e).1);
          have hAk3 := H1.out.2.2.2.2.2.1.keep (hb3.block _ H1.out.2.2.2.2.2.1.lt);
          obtain ⟨cc, _⟩ := hAk3.cells;
          have H3 := hide (And.intro ho3 hb3);
          clear ho3 hb3 hg3 hat3 hAk3)
        all_goals
          refine (HPC.out.2 w3 v3 H3.out.2 (HPC.out.1 w3 v3 H3.out.1)).mono ?_
          rintro e w4 ⟨rfl, hA4, hO4⟩
          have H4 := hide (And.intro hA4 hO4)
          clear hA4 hO4
          go_wp2
          first
            | exact ⟨⟨k + 1, by go_num, by omega, H4.out.1, H4.out.2⟩, by simp only [intOf]; omega⟩
            | (have hck : cap = ks := by assumption
               subst hck
               go_roundw
               case rel => exact ⟨k + 1, by go_num, by omega, H4.out.1, H4.out.2⟩
               case measure =>
                 show P.length - ((k : Int) + 1).toNat < P.length - ((k : Nat) : Int).toNat
                 omega)
    · have hkk : k = P.length := by omega
      subst hkk
      have H1 := hide (And.intro hAr hO)
      clear hAr hO
      go_wp2
      go_ret
      exact ⟨rfl, H1.out.1, H1.out.2⟩
end Go.Proofs.YtogdeaaphdlchaaGreatDoor
