import Derived.Test.YtpaemkanfnddoaaGreatDoorM36
import Derived.Laws.Cover1
import Derived.Lib.UnsafeStr
import Derived.Lib.AppendZerosOnto
set_option maxRecDepth 100000
set_option maxHeartbeats 8000000
namespace Go.Proofs.YtpaemkanfnddoaaGreatDoor
open Go.RowKit Go.Deep
variable {a b : ByteArray} {L : List (Ob × Value)} {os : List Ob} {cur : List Value} {g : Nat} {K : Nat → Prop} {P : Program} {e : TypeId} {v : Value} {w : World}
theorem isNaN_any (x : ByteArray) (w : World) : Calls Tryz.prog 127 #[.string x] w fun e w' => e = .returned (.bool false) ∧ w' = w := by
 go_enter Tryz.func127, Tryz.ntmps127
 go_wp2
 go_ret
 exact ⟨by simp, rfl⟩
def cmpN (a b : ByteArray) : Int := if ltN a b then -1 else if ltN b a then 1 else 0
theorem cmpN_lt : cmpN a b < 0 ↔ ltN a b = true := by
 unfold cmpN
 cases h1 : ltN a b <;> cases h2 : ltN b a <;> simp
theorem cmpN_eq : cmpN a b = 0 ↔ a = b := by
 unfold cmpN
 constructor
 · intro h
   cases h1 : ltN a b
   · cases h2 : ltN b a
     · exact ltN_tri h1 h2
     · simp [h1, h2] at h
   · simp [h1] at h
 · rintro rfl
   simp [ltN_irrefl]
theorem compare_any (x y : ByteArray) (w : World) : Calls Tryz.prog 94 #[.string x, .string y] w fun e w' => e = .returned (.int .i64 (cmpN x y)) ∧ w' = w := by
 by_cases exy : x = y
 · subst exy
   have hl : Op.bytesLess x.toList x.toList = false := ltN_irrefl x
   have hc : cmpN x x = 0 := cmpN_eq.2 rfl
   rw [hc]
   go_enter Tryz.func94, Tryz.ntmps94
   go_wp2_with fail
   refine (isNaN_any x w).mono ?_
   rintro e w1 ⟨rfl, rfl⟩
   go_wp2_with fail
   refine (isNaN_any x w1).mono ?_
   rintro e w2 ⟨rfl, rfl⟩
   go_wp2
   go_ret
   exact ⟨rfl, rfl⟩
 · have h1 : ¬ x.toList = y.toList := fun e => exy (toList_inj e)
   have h2 : (!x.toList == y.toList) = true := by simp [h1]
   obtain ⟨lt, h0⟩ : ∃ lt, ltN x y = lt := ⟨_, rfl⟩
   have hl : Op.bytesLess x.toList y.toList = lt := h0
   have hc : cmpN x y = if lt then -1 else 1 := by
    unfold cmpN; rw [h0]
    cases lt
    · cases hg : ltN y x
      · exact absurd (ltN_tri h0 hg) exy
      · rfl
    · rfl
   rw [hc]
   clear hc h0
   go_enter Tryz.func94, Tryz.ntmps94
   go_wp2_with fail
   refine (isNaN_any x w).mono ?_
   rintro e w1 ⟨rfl, rfl⟩
   go_wp2_with fail
   refine (isNaN_any y w1).mono ?_
   rintro e w2 ⟨rfl, rfl⟩
   cases lt
   · go_wp2
     go_ret
     exact ⟨rfl, rfl⟩
   · go_wp2
     go_ret
     exact ⟨rfl, rfl⟩
theorem find1_any (nm x : ByteArray) (sz : Int) (sv : Value) (w : World) : Calls Tryz.prog 93 #[.agg #[.string nm, .int .i64 sz, sv], .string x] w fun e w' => e = .returned (.int .i64 (cmpN nm x)) ∧ Below w.heap.size w w' := by
 have hb : Below w.heap.size w (w.alloc (.cells #[.string nm, .int .i64 sz, sv] 114)) := (Below.refl _ w).alloc (Nat.le_refl _) _
 go_enter Tryz.func93, Tryz.ntmps93
 go_wp2_with fail
 refine (compare_any nm x _).mono ?_
 rintro e w1 ⟨rfl, rfl⟩
 go_wp2
 go_ret
 exact ⟨rfl, hb⟩
def isIn (os : List Ob) (x : ByteArray) : Bool := match (namesOf os)[placeN (namesOf os) x]? with
 | some n => decide (n = x)
 | none => false
theorem isIn_iff (hu : Up (namesOf os)) (x : ByteArray) : isIn os x = true ↔ x ∈ namesOf os := by
 unfold isIn
 constructor
 · intro h
   split at h
   · rename_i n hn
     have := of_decide_eq_true h
     rw [← this]
     exact List.mem_of_getElem? hn
   · cases h
 · intro h
   obtain ⟨h1, h2⟩ := placeN_mem hu h
   rw [List.getElem?_eq_getElem h1, h2]
   simp
def FdR (w : World) (os : List Ob) (x : ByteArray) (i j : Value) (wr : World) : Prop := ∃ a b : Nat, a ≤ b ∧ b ≤ os.length ∧ i = .int .i64 a ∧ j = .int .i64 b ∧ (∀ k (hk : k < os.length), k < a → ltN os[k].name x = true) ∧ (∀ k (hk : k < os.length), b ≤ k → ltN os[k].name x = false) ∧ Below w.heap.size w wr
theorem up_at (hu : Up (namesOf os)) {i j : Nat} (hi : i < os.length) (hj : j < os.length) (h : i < j) : ltN os[i].name os[j].name = true := by
 unfold Up at hu
 rw [List.pairwise_iff_getElem] at hu
 have := hu i j (by rw [namesOf_len]; exact hi) (by rw [namesOf_len]; exact hj) h
 unfold namesOf at this
 rwa [List.getElem_map, List.getElem_map] at this
theorem Cat.at' {ao : Option Addr} {n c : Nat} (h : Cat K w (.slice ao n c) os) {k : Nat} (hk : k < os.length) : ∃ b off sv, ao = some ⟨b, off, none⟩ ∧ b < w.heap.size ∧ K b ∧ w.cell? ⟨b, off + k * 3, none⟩ = some (.string os[k].name) ∧ w.cell? ⟨b, off + k * 3 + 1, none⟩ = some (.int .i64 (os[k].size : Nat)) ∧ w.cell? ⟨b, off + k * 3 + 2, none⟩ = some sv ∧ Ints K w sv os[k].stripes := by
 obtain ⟨ao', c', e, _, h3⟩ := h
 obtain ⟨b, off, q1, q2, q3, q4⟩ := h3 (fun e => by rw [e] at hk; simp at hk)
 simp only [Value.slice.injEq] at e
 obtain ⟨rfl, _, _⟩ := e
 obtain ⟨sv, r1, r2, r3, r4⟩ := q4 k hk
 exact ⟨b, off, sv, q1, q3, q2, r1, r2, r3, r4⟩
theorem search_any (hC : Cat (fun k => k < w.heap.size) w v os) (k9 : os.length ≤ 10000) (hu : Up (namesOf os)) (x : ByteArray) :
 Calls Tryz.prog 92 #[v, .string x, .func (.func 93) #[] #[]] w fun e w' => e = .returned (.tuple #[.int .i64 (placeN (namesOf os) x : Nat), .bool (isIn os x)]) ∧ Below w.heap.size w w' := by
 obtain ⟨ao, c, rfl, hr, _⟩ := id hC
 obtain ⟨N, hN⟩ : ∃ N, os.length = N := ⟨_, rfl⟩
 have H := hide2 hC hu
 clear hC hu
 rw [hN]
 go_enter Tryz.func92, Tryz.ntmps92
 go_wp2
 go_loopw [9, 10] (fun i j wr => FdR w os x i j wr) (fun i j _ => (intOf j).toNat - (intOf i).toNat)
 case atStart => exact ⟨0, N, Nat.zero_le _, by omega, rfl, rfl, fun k _ h => by omega, fun k hk h => by omega, Below.refl _ w⟩
 case round =>
  obtain ⟨a, b, ka, hb, rfl, rfl, h3, h4, h2⟩ := hrel
  by_cases kb : a < b
  · obtain ⟨m, hm⟩ : ∃ m : Nat, m = (a + b) / 2 := ⟨_, rfl⟩
    have hp : ((a : Int) + (b : Int)) / 2 = (m : Int) := by omega
    have hg : m < os.length := by omega
    obtain ⟨b0, off, sv, rfl, hs, _, r1, r2, r3, _⟩ := (H.out.1.keep (KpS.of_below h2)).at' (k := m) hg
    obtain ⟨nm, h1⟩ : ∃ nm, os[m].name = nm := ⟨_, rfl⟩
    obtain ⟨sz, hc⟩ : ∃ sz : Int, ((os[m].size : Nat) : Int) = sz := ⟨_, rfl⟩
    rw [h1] at r1
    rw [hc] at r2
    have hy : m < N := by omega
    have hz : (m : Int) < (N : Int) := by omega
    have HH := hide5 h3 h4 h2 h1 hm
    clear h3 h4 h2 h1 hm hc
    go_wp2_with fail
    refine (find1_any nm x sz sv wr).mono ?_
    rintro e w1 ⟨rfl, h8⟩
    obtain ⟨cc, h5⟩ : ∃ cc, cmpN nm x = cc := ⟨_, rfl⟩
    rw [h5]
    obtain ⟨h3, h4, h2, h1, hm⟩ := HH.out
    have h6 : Below w.heap.size w w1 := h2.trans (h8.mono h2.size)
    by_cases he : cc < 0
    · have h0 : ltN nm x = true := cmpN_lt.1 (by rw [h5]; exact he)
      have H3 : Hid (FdR w os x (.int .i64 ((m + 1 : Nat) : Int)) (.int .i64 (b : Nat)) w1) := hide ⟨m + 1, b, by omega, hb, rfl, rfl, (fun k hk h => by
       rcases Nat.eq_or_lt_of_le (Nat.le_of_lt_succ h) with e | h'
       · subst e; rw [h1]; exact h0
       · have := up_at H.out.2 hk hg h'
         rw [h1] at this
         exact ltN_trans this h0), (fun k hk h => h4 k hk h), h6⟩
      clear h3 h4 h2 h1 h8 h6 h0 h5 HH r1 r2 r3
      dsimp only
      have kc : m ≤ 10000 := by omega
      have k0 : a ≤ m := by omega
      have hh : m < b := by omega
      clear hm hp
      go_wp2
      refine ⟨by simpa using H3.out, ?_⟩
      show ((b : Int)).toNat - ((m : Int) + 1).toNat < ((b : Int)).toNat - ((a : Int)).toNat
      omega
    · have h0 : ltN nm x = false := by
       cases h : ltN nm x
       · rfl
       · exact absurd (cmpN_lt.2 h) (by rw [h5]; exact he)
      have H3 : Hid (FdR w os x (.int .i64 (a : Nat)) (.int .i64 (m : Nat)) w1) := hide ⟨a, m, by omega, by omega, rfl, rfl, (fun k hk h => h3 k hk h), (fun k hk h => by
       rcases Nat.eq_or_lt_of_le h with e | h'
       · subst e; rw [h1]; exact h0
       · have := up_at H.out.2 hg hk h'
         rw [h1] at this
         cases hx : ltN os[k].name x
         · rfl
         · rw [ltN_trans this hx] at h0; cases h0), h6⟩
      clear h3 h4 h2 h1 h8 h6 h0 h5 HH r1 r2 r3
      dsimp only
      have k0 : a ≤ m := by omega
      have hh : m < b := by omega
      clear hm hp
      go_wp2
      refine ⟨H3.out, ?_⟩
      show ((m : Int)).toNat - ((a : Int)).toNat < ((b : Int)).toNat - ((a : Int)).toNat
      omega
  · have ha : a = b := by omega
    subst ha
    have h9 : placeN (namesOf os) x = a := placeN_uniq _ _ _ (by rw [namesOf_len]; omega) (fun j hj h => by
     have k5 : j < os.length := by rwa [namesOf_len] at hj
     simpa [namesOf] using h3 j k5 h) (fun hi => by
     have k6 : a < os.length := by rwa [namesOf_len] at hi
     simpa [namesOf] using h4 a k6 (Nat.le_refl _))
    by_cases k7 : a < N
    · have k8 : a < os.length := hN.symm ▸ k7
      obtain ⟨b0, off, sv, rfl, hs, _, r1, r2, r3, _⟩ := (H.out.1.keep (KpS.of_below h2)).at' (k := a) k8
      obtain ⟨nm, h1⟩ : ∃ nm, os[a].name = nm := ⟨_, rfl⟩
      obtain ⟨sz, hc⟩ : ∃ sz : Int, ((os[a].size : Nat) : Int) = sz := ⟨_, rfl⟩
      have hf : isIn os x = decide (cmpN nm x = 0) := by
       unfold isIn
       rw [h9, List.getElem?_eq_getElem (by rw [namesOf_len]; omega)]
       simp only [namesOf, List.getElem_map, h1]
       exact decide_eq_decide.2 cmpN_eq.symm
      rw [h1] at r1
      rw [hc] at r2
      have hn : (a : Int) < (N : Int) := by omega
      have HH := hide h2
      have HE := hide2 h9 hf
      clear h3 h4 h2 h1 h9 hf hc
      go_wp2_with fail
      refine (find1_any nm x sz sv wr).mono ?_
      rintro e w1 ⟨rfl, h8⟩
      obtain ⟨cc, h5⟩ : ∃ cc, cmpN nm x = cc := ⟨_, rfl⟩
      have h7 := hide2 HE.out.1 (HE.out.2.trans (by rw [h5]))
      rw [h5]
      have h6 : Hid (Below w.heap.size w w1) := hide (HH.out.trans (h8.mono HH.out.size))
      clear h8 HH HE r1 r2 r3 h5
      by_cases hq : cc = 0
      · subst hq
        go_wp2
        go_ret2
        refine ⟨?_, h6.out⟩
        rw [h7.out.1, h7.out.2]
        rfl
      · go_wp2
        go_ret2
        refine ⟨?_, h6.out⟩
        rw [h7.out.1, h7.out.2]
        simp [hq]
    · have hf : isIn os x = false := by
       unfold isIn
       rw [h9, List.getElem?_eq_none (by rw [namesOf_len]; omega)]
      have hn : ¬ (a : Int) < (N : Int) := by omega
      have h6 : Hid (Below w.heap.size w wr) := hide h2
      have h7 := hide2 h9 hf
      clear h3 h4 h2 h9 hf
      go_wp2
      go_ret2
      refine ⟨?_, h6.out⟩
      rw [h7.out.1, h7.out.2]
      rfl
theorem find_any (hC : Cat (fun k => k < w.heap.size) w v os) (h1 : os.length ≤ 10000) (hu : Up (namesOf os)) (x : ByteArray) :
 Calls Tryz.prog 59 #[v, .string x] w fun e w' => e = .returned (.tuple #[.int .i64 (placeN (namesOf os) x : Nat), .bool (isIn os x)]) ∧ Below w.heap.size w w' := by
 have hc := search_any hC h1 hu x
 obtain ⟨n, hn⟩ : ∃ n, placeN (namesOf os) x = n := ⟨_, rfl⟩
 obtain ⟨i, hi⟩ : ∃ i, isIn os x = i := ⟨_, rfl⟩
 rw [hn, hi] at hc ⊢
 clear hn hi
 go_enter Tryz.func59, Tryz.ntmps59
 go_wp2_with fail
 refine hc.mono ?_
 rintro e w1 ⟨rfl, h0⟩
 have H := hide h0
 clear h0 hc hC
 go_wp2
 go_ret2
 exact ⟨rfl, H.out⟩
def namedB (x : ByteArray) : Bool := decide (1 ≤ x.size ∧ x.size ≤ 16)
theorem named_any (x : ByteArray) (w : World) : Calls Tryz.prog 60 #[.string x] w fun e w' => e = .returned (.bool (namedB x)) ∧ w' = w := by
 have hn : namedB x = (decide (1 ≤ x.size) && decide (x.size ≤ 16)) := by unfold namedB; simp
 rw [hn]
 obtain ⟨n, h0⟩ : ∃ n, x.size = n := ⟨_, rfl⟩
 rw [h0]
 by_cases h1 : 1 ≤ n
 · have h3 : (1 : Int) ≤ (n : Int) := by omega
   by_cases h2 : n ≤ 16
   · have h4 : (n : Int) ≤ 16 := by omega
     go_enter Tryz.func60, Tryz.ntmps60
     go_wp2
     go_ret
     exact ⟨by simp [h1, h2], rfl⟩
   · have h4 : ¬ (n : Int) ≤ 16 := by omega
     go_enter Tryz.func60, Tryz.ntmps60
     go_wp2
     go_ret
     exact ⟨by simp, rfl⟩
 · have h3 : ¬ (1 : Int) ≤ (n : Int) := by omega
   go_enter Tryz.func60, Tryz.ntmps60
   go_wp2
   go_ret
   exact ⟨by simp, rfl⟩
theorem sliteClone_any (s : ByteArray) (w : World) (h0 : ¬ s.size = 0) (h5 : s.size ≤ 1000000) : Calls Tryz.prog 124 #[.string s] w fun e w' => e = .returned (.string s) ∧ Below w.heap.size w w' := by
 obtain ⟨i0, hi, h6, h2, h7⟩ := info_parts Tryz.infoByte
 have h1 : (Tryz.prog.info? 5).map (·.size) = some 1 := by rw [hi]; simp [h2]
 have h8 : Tryz.prog.cellsOf 5 = 1 := by simp [Program.cellsOf, hi, h2]
 obtain ⟨M, hM⟩ : ∃ M, M = madeCells (Value.int .u8 0).cells (((s.size : Nat) : Int).toNat * i0.size) := ⟨_, rfl⟩
 have hg : M.size = s.size := by rw [hM, size_madeCells, h2]; simp
 have hh : ∀ W : World, (Instr.makeSlice 31 (.int .i64 (s.size : Int)) (.int .i64 (s.size : Int))).run Tryz.prog W = .ok (.slice (some ⟨W.heap.size, 0, none⟩) s.size s.size) (W.alloc (.cells M 5)) := fun W => by
  have h := run_make (P := Tryz.prog) W 31 5 i0 (.int .u8 0) Tryz.underlying31 hi h6 .i64 .i64 (s.size : Int) (s.size : Int) (by omega) (by omega) (by rw [h7]; omega) (by omega)
  rw [← hM] at h
  simpa using h
 clear hM
 have h9 := Lib.run_copy_row_string (P := Tryz.prog) (w.alloc (.cells M 5)) 31 9 3 5 w.heap.size 0 s.size s.size s M 5 Tryz.underlying31 h1 (heap_alloc_new w _) (Nat.le_refl _) (by omega)
 obtain ⟨Y, hY⟩ : ∃ Y, Y = (M.toList.take 0 ++ Lib.byteCells s.data.toList ++ M.toList.drop (0 + s.size)).toArray := ⟨_, rfl⟩
 rw [← hY] at h9
 have h3 : Y.toList = Lib.byteCells s.data.toList := by
  rw [hY, List.toList_toArray, List.take_zero, List.nil_append, List.drop_of_length_le (by rw [Array.length_toList]; omega), List.append_nil]
 have hj : Y.size = s.size := by rw [← Array.length_toList, h3, Lib.byteCells_length, ← Lib.size_eq]
 have h4 : ((w.alloc (.cells M 5)).setRow w.heap.size Y).heap[w.heap.size]? = some (.cells Y 5 (0, 0)) := setRow_heap _ _ M _ 5 (0, 0) (heap_alloc_new w _)
 have ha : s.data.toList ≠ [] := fun e => h0 (by rw [Lib.size_eq, e]; rfl)
 have hc := Lib.run_unsafeString_row (P := Tryz.prog) ((w.alloc (.cells M 5)).setRow w.heap.size Y) 266 3 9 5 Tryz.underlying266 h8 w.heap.size Y.size (by unfold World.shape?; rw [h4]) s.data.toList ha (by rw [← Lib.size_eq]; omega) (by rw [← Lib.size_eq]; omega)
  (fun j x hx => Lib.cells_of_row h4 Y.size j _ (by rw [List.take_of_length_le (by rw [Array.length_toList]; exact Nat.le_refl _), h3]; simp [Lib.byteCells, hx]))
 rw [← Lib.size_eq] at hc
 clear hY
 go_enter Tryz.func124, Tryz.ntmps124
 go_wp2
 go_ret
 have he : Below w.heap.size w (w.alloc (.cells M 5)) := (Below.refl _ w).alloc (Nat.le_refl _) _
 have hf : Below w.heap.size (w.alloc (.cells M 5)) ((w.alloc (.cells M 5)).setRow w.heap.size Y) := ⟨rfl, rfl, rfl, by simp, fun k hk => setRow_other _ _ _ _ (by omega)⟩
 exact ⟨rfl, Lib.below_freeze (he.trans hf) (p := ⟨w.heap.size, 0, none⟩) (Nat.le_refl _) _⟩
theorem sclone_any (s : ByteArray) (w : World) (h0 : ¬ s.size = 0) (h1 : s.size ≤ 1000000) : Calls Tryz.prog 87 #[.string s] w fun e w' => e = .returned (.string s) ∧ Below w.heap.size w w' := by
 have hc := sliteClone_any s w h0 h1
 go_enter Tryz.func87, Tryz.ntmps87
 go_wp2_with fail
 refine hc.mono ?_
 rintro e w1 ⟨rfl, hb⟩
 have H := hide hb
 clear hb hc
 go_wp2
 go_ret
 exact ⟨rfl, H.out⟩
def RowC (w : World) (g : Nat) (e : TypeId) (cur : List Value) : Prop := w.heap[g]? = some (.cells cur.toArray e (0, 0))
theorem RowC.lt (h : RowC w g e cur) : g < w.heap.size := (Array.getElem?_eq_some_iff.1 h).1
theorem RowC.cell (h : RowC w g e cur) {j : Nat} {u : Value} (hj : cur[j]? = some u) : w.cell? ⟨g, j, none⟩ = some u := by
 unfold RowC at h
 simp [World.cell?, h, hj]
theorem RowC.thaw (h : RowC w g e cur) (j : Nat) : w.frozen? ⟨g, j, none⟩ = false := by
 unfold RowC at h
 simp [World.frozen?, h]
theorem RowC.keep {w' : World} (h : RowC w g e cur) (hk : w'.heap[g]? = w.heap[g]?) : RowC w' g e cur := hk.trans h
theorem setA_list : ∀ (vs : List Value) (o : Nat) (cur : Array Value), o + vs.length ≤ cur.size → setA cur o vs = (cur.toList.take o ++ vs ++ cur.toList.drop (o + vs.length)).toArray
 | [], o, cur, _ => by simp [setA]
 | v :: r, o, cur, h => by
  simp only [List.length_cons] at h ⊢
  unfold setA
  rw [setA_list r (o + 1) (cur.setIfInBounds o v) (by simp; omega), Array.toList_setIfInBounds]
  have e : (cur.toList.set o v).take (o + 1) = cur.toList.take o ++ [v] := by
   rw [List.take_add_one, List.take_set_of_le (Nat.le_refl o), List.getElem?_set_self (by simp; omega)]
   rfl
  have e2 : (cur.toList.set o v).drop (o + 1 + r.length) = cur.toList.drop (o + (r.length + 1)) := by
   rw [List.drop_set_of_lt (by omega), show o + 1 + r.length = o + (r.length + 1) by omega]
  rw [e, e2]
  simp
theorem RowC.set (h : RowC w g e cur) (o : Nat) (vs : List Value) (ho : o + vs.length ≤ cur.length) : RowC (w.setCells g o vs) g e (cur.take o ++ vs ++ cur.drop (o + vs.length)) := by
 unfold RowC at h ⊢
 rw [heap_setCells vs o w h, setA_list vs o cur.toArray (by simpa using ho)]
theorem run_copy_wide (w : World) (dT sT ty elem : TypeId) (k : Nat) (g o dLen dCap b so sLen sCap : Nat) (e : TypeId) (cur cs : List Value)
 (hu : P.underlying dT = some (.slice elem)) (hs : (P.info? elem).map (·.size) = some k) (hn : cs.length = Nat.min sLen dLen * k)
 (h2 : ∀ j v, cs[j]? = some v → w.cell? ⟨b, so + j, none⟩ = some v) (h0 : RowC w g e cur) (ho : o + cs.length ≤ cur.length) (h1 : ∀ v ∈ cs, v.oneCell' = true) :
 (Builtin.copy_ #[dT, sT] ty #[.slice (some ⟨g, o, none⟩) dLen dCap, .slice (some ⟨b, so, none⟩) sLen sCap]).run P w = .ok (goInt (Nat.min sLen dLen)) (w.setCells g o cs) := by
 have hl := run_loadCells_list (P := P) w ⟨b, so, none⟩ cs (fun j v hj => by rw [Addr.add_mid]; exact h2 j v hj)
 have h3 := run_storeCells_cells (P := P) g o cs 0 w (fun j hj => by
  rw [Nat.add_zero]
  rw [h0.cell (List.getElem?_eq_getElem (by omega : o + j < cur.length))]; rfl) (fun j _ => h0.thaw _) h1
 cases hq : P.info? elem with
 | none => simp [hq] at hs
 | some i =>
  have hi : i.size = k := by simpa [hq] using hs
  simp only [Nat.add_zero] at h3
  simp [Builtin.copy_, run_underlying hu, Builtin.lenOf, Builtin.firstCells, sizeOf, typeInfo, hq, hi, ← hn, hl, h3]
theorem run_clear_wide (w : World) (t e ty : TypeId) (z : Value) (g o n c : Nat) (e' : TypeId) (cur : List Value) (ht : P.underlying t = some (.slice e)) (hv : ∀ w, (zeroValue e).run P w = .ok z w) (hn : 0 < n)
 (h0 : RowC w g e' cur) (ho : o + (Builtin.zeroCells z.cells n).toList.length ≤ cur.length) (h1 : ∀ v ∈ (Builtin.zeroCells z.cells n).toList, v.oneCell' = true) :
 (Builtin.clear_ #[t] ty #[.slice (some ⟨g, o, none⟩) n c]).run P w = .ok (.tuple #[]) (w.setCells g o (Builtin.zeroCells z.cells n).toList) := by
 have h2 := run_storeCells_cells (P := P) g o (Builtin.zeroCells z.cells n).toList 0 w (fun j hj => by
  rw [Nat.add_zero]
  rw [h0.cell (List.getElem?_eq_getElem (by omega : o + j < cur.length))]; rfl) (fun j _ => h0.thaw _) h1
 simp only [Nat.add_zero] at h2
 obtain ⟨m, rfl⟩ : ∃ m, n = m + 1 := ⟨n - 1, by omega⟩
 simp [Builtin.clear_, run_underlying ht, hv, h2]
def ob3 (x : Ob × Value) : List Value := [.string x.1.name, .int .i64 (x.1.size : Nat), x.2]
def obc (L : List (Ob × Value)) : List Value := L.flatMap ob3
theorem obc_len (L : List (Ob × Value)) : (obc L).length = L.length * 3 := by
 induction L with
 | nil => rfl
 | cons x L ih => unfold obc at ih ⊢; rw [List.flatMap_cons, List.length_append, ih, List.length_cons]; simp [ob3]; omega
theorem obc_append (L M : List (Ob × Value)) : obc (L ++ M) = obc L ++ obc M := by unfold obc; rw [List.flatMap_append]
theorem obc_take (L : List (Ob × Value)) (k : Nat) : (obc L).take (k * 3) = obc (L.take k) := by
 by_cases h : k ≤ L.length
 · have e : obc L = obc (L.take k) ++ obc (L.drop k) := by rw [← obc_append, List.take_append_drop]
   have hl : (obc (L.take k)).length = k * 3 := by rw [obc_len, List.length_take]; omega
   rw [e, List.take_append_of_le_length (by omega), List.take_of_length_le (by omega)]
 · rw [List.take_of_length_le (by rw [obc_len]; omega), List.take_of_length_le (by omega)]
theorem obc_drop (L : List (Ob × Value)) (k : Nat) : (obc L).drop (k * 3) = obc (L.drop k) := by
 by_cases h : k ≤ L.length
 · have e : obc L = obc (L.take k) ++ obc (L.drop k) := by rw [← obc_append, List.take_append_drop]
   have hl : (obc (L.take k)).length = k * 3 := by rw [obc_len, List.length_take]; omega
   rw [e, ← hl, List.drop_left]
 · rw [List.drop_eq_nil_of_le (by rw [obc_len]; omega), List.drop_eq_nil_of_le (by omega)]; rfl
theorem obc_at (L : List (Ob × Value)) (k : Nat) (hk : k < L.length) : (obc L)[k * 3]? = some (.string L[k].1.name) ∧ (obc L)[k * 3 + 1]? = some (.int .i64 (L[k].1.size : Nat)) ∧ (obc L)[k * 3 + 2]? = some L[k].2 := by
 have e : ∀ j, (obc L)[k * 3 + j]? = (obc (L.drop k))[j]? := fun j => by rw [← obc_drop, List.getElem?_drop]
 have h0 := e 0; have h1 := e 1; have h2 := e 2
 rw [List.drop_eq_getElem_cons hk] at h0 h1 h2
 exact ⟨h0, h1, h2⟩
theorem ob3_one {x : Ob × Value} (h : ∃ so sl sc, x.2 = .slice so sl sc) : ∀ u ∈ ob3 x, u.oneCell' = true := by
 obtain ⟨so, sl, sc, e⟩ := h
 intro u hu
 simp only [ob3, List.mem_cons, List.not_mem_nil, or_false] at hu
 rcases hu with rfl | rfl | rfl
 · rfl
 · rfl
 · rw [e]; rfl
def Sts (K : Nat → Prop) (w : World) (L : List (Ob × Value)) : Prop := ∀ x ∈ L, Ints K w x.2 x.1.stripes
theorem Sts.one (h : Sts K w L) : ∀ u ∈ obc L, u.oneCell' = true := by
 intro u hu
 unfold obc at hu
 rw [List.mem_flatMap] at hu
 obtain ⟨x, hx, h0⟩ := hu
 obtain ⟨ao, c, e, _⟩ := h x hx
 exact ob3_one ⟨ao, _, c, e⟩ u h0
theorem Ints.widen {K' : Nat → Prop} {l : List Nat} (h : Ints K w v l) (hk : ∀ k, K k → K' k) : Ints K' w v l := by
 obtain ⟨ao, c, h1, h2, h3⟩ := h
 refine ⟨ao, c, h1, h2, fun hl => ?_⟩
 obtain ⟨b, off, q1, q2, q3⟩ := h3 hl
 exact ⟨b, off, q1, hk b q2, q3⟩
theorem cat_src (h : Cat K w v os) : ∃ L : List (Ob × Value), L.map (·.1) = os ∧ Sts K w L ∧ ∀ w', KpS K w w' → Src Tryz.prog 3 110 v L.length (obc L) w' := by
 obtain ⟨ao, c, rfl, hl, h3⟩ := h
 by_cases h6 : os = []
 · subst h6
   refine ⟨[], rfl, fun x hx => by simp at hx, fun w' _ => ?_⟩
   cases ao with
   | none => exact Src.ofNil w' Tryz.underlying110 c
   | some ad => exact Src.ofSlice w' Tryz.underlying110 ad 0 c [] rfl (fun j u hj => by simp at hj) (fun u hu => by simp at hu)
 · obtain ⟨b, off, rfl, hK, hb, h7⟩ := h3 h6
   have h9 : ∃ f : Nat → Value, ∀ i (hi : i < os.length), w.cell? ⟨b, off + i * 3, none⟩ = some (.string os[i].name) ∧ w.cell? ⟨b, off + i * 3 + 1, none⟩ = some (.int .i64 (os[i].size : Nat)) ∧ w.cell? ⟨b, off + i * 3 + 2, none⟩ = some (f i) ∧ Ints K w (f i) os[i].stripes := by
    refine ⟨fun i => if hi : i < os.length then Classical.choose (h7 i hi) else .nilIface, fun i hi => ?_⟩
    have := Classical.choose_spec (h7 i hi)
    simpa [hi] using this
   obtain ⟨f, hf⟩ := h9
   obtain ⟨L, hL⟩ : ∃ L : List (Ob × Value), L = os.zipIdx.map (fun q => (q.1, f q.2)) := ⟨_, rfl⟩
   have h4 : L.length = os.length := by rw [hL]; simp
   have h0 : ∀ i (hi : i < os.length), L[i]'(by omega) = (os[i], f i) := fun i hi => by subst hL; simp
   have h8 : Sts K w L := fun x hx => by
    obtain ⟨i, hi, e⟩ := List.getElem_of_mem hx
    rw [h0 i (by omega)] at e
    rw [← e]
    exact (hf i (by omega)).2.2.2
   refine ⟨L, ?_, h8, ?_⟩
   · refine List.ext_getElem (by simp [h4]) fun i h1 h2 => ?_
     rw [List.getElem_map, h0 i h2]
   · intro w' ha
     have h5 := ha.2 b hb hK
     rw [← h4]
     refine Src.ofSlice w' Tryz.underlying110 ⟨b, off, none⟩ L.length c (obc L) (obc_len L) (fun j u hj => ?_) h8.one
     rw [Addr.add_mid]
     have he : j < L.length * 3 := by obtain ⟨q, _⟩ := List.getElem?_eq_some_iff.1 hj; rwa [obc_len] at q
     have hk : j / 3 < L.length := by omega
     obtain ⟨a0, a1, a2⟩ := obc_at L (j / 3) hk
     obtain ⟨b0, b1, b2, _⟩ := hf (j / 3) (by omega)
     rw [h0 (j / 3) (by omega)] at a0 a1 a2
     have hc : j = j / 3 * 3 ∨ j = j / 3 * 3 + 1 ∨ j = j / 3 * 3 + 2 := by omega
     rcases hc with q | q | q
     · rw [q, a0] at hj; rw [q, ← hj]; exact (World.cell?_of_block h5).trans b0
     · rw [q, a1] at hj; rw [q, ← hj, ← Nat.add_assoc]; exact (World.cell?_of_block h5).trans b1
     · rw [q, a2] at hj; rw [q, ← hj, ← Nat.add_assoc]; exact (World.cell?_of_block h5).trans b2
theorem cat_of_row {base : Nat} {u : Value} (h : w.ownsRow base 114 3 u L.length (obc L)) (hl : L.length ≤ 1000000) (hK : ∀ k, base ≤ k → K k) (h2 : Sts K w L) : Cat K w u (L.map (·.1)) := by
 rcases h.2 with ⟨rfl, hn⟩ | ⟨g, cap, cur, rfl, hb, hg, h4, h5, h6, h3⟩
 · have : L = [] := List.eq_nil_of_length_eq_zero hn
   subst this
   exact Cat.nil _ _
 · refine ⟨some ⟨g, 0, none⟩, cap, by rw [List.length_map], by rw [List.length_map]; exact hl, fun _ => ⟨g, 0, rfl, hK g hb, (Array.getElem?_eq_some_iff.1 hg).1, fun i hi => ?_⟩⟩
   rw [List.length_map] at hi
   obtain ⟨a0, a1, a2⟩ := obc_at L i hi
   have h0 : ∀ j u, j < L.length * 3 → (obc L)[j]? = some u → w.cell? ⟨g, 0 + j, none⟩ = some u := fun j u hj h1 => by
    rw [← h3, List.getElem?_take_of_lt hj] at h1
    rw [Nat.zero_add]
    simp [World.cell?, hg]
    simpa using h1
   refine ⟨L[i].2, ?_, ?_, ?_, ?_⟩
   · rw [List.getElem_map]; exact h0 _ _ (by omega) a0
   · rw [List.getElem_map, Nat.add_assoc]; exact h0 _ _ (by omega) a1
   · rw [Nat.add_assoc]; exact h0 _ _ (by omega) a2
   · rw [List.getElem_map]; exact h2 _ (List.getElem_mem hi)
end Go.Proofs.YtpaemkanfnddoaaGreatDoor
