import Derived.Test.YtpaemkanfnddoaaGreatDoorM37
import Derived.Lib.Overlaps
import Derived.Laws.Externs
import Derived.Shelf.RegionOpenPlain
set_option maxRecDepth 100000
set_option maxHeartbeats 8000000
namespace Go.Proofs.YtpaemkanfnddoaaGreatDoor
open Go.RowKit Go.Deep
variable {cur : Array Value} {L : List (Ob × Value)} {base g cap i vb : Nat} {x : Ob × Value} {u : Value} {w : World}
theorem catClone_any {K : Nat → Prop} {v : Value} {os : List Ob} (hC : Cat K w v os) (hr : os.length ≤ 10000) :
 Calls Tryz.prog 100 #[v] w fun e w' => ∃ u L, e = .returned u ∧ L.map (·.1) = os ∧ Sts K w L ∧ w'.ownsRow w.heap.size 114 3 u L.length (obc L) ∧ Below w.heap.size w w' := by
 obtain ⟨L, hL, h9, h7⟩ := cat_src hC
 obtain ⟨ao, c, rfl, hk, h8⟩ := id hC
 have hm : L.length = os.length := by rw [← hL, List.length_map]
 obtain ⟨io, hn, ha, hc, he⟩ := info_parts Tryz.infoObj48
 cases ao with
 | none =>
  have h0 : os = [] := Classical.byContradiction fun h => by obtain ⟨b, off, e, _⟩ := h8 h; cases e
  subst h0
  have hp : L = [] := List.eq_nil_of_length_eq_zero hm
  subst hp
  have hq := fun wx => Lib.run_eql_slice_nil (P := Tryz.prog) wx 110 114 none 0 c 0 0 Tryz.underlying110
  simp only [List.length_nil]
  clear h8 hC h7 h9
  go_enter Tryz.func100, Tryz.ntmps100
  go_wp2
  go_ret
  exact ⟨_, [], rfl, rfl, fun x hx => by simp at hx, World.ownsRow_nil _ _ _ _, Below.refl _ _⟩
 | some ad =>
  have hq := fun wx => Lib.run_eql_slice_nil (P := Tryz.prog) wx 110 114 (some ad) os.length c 0 0 Tryz.underlying110
  have hf : Below w.heap.size w (w.alloc (.cells #[] 114)) := (Below.refl _ _).alloc (Nat.le_refl _) _
  have h6 := h7 _ (KpS.of_below hf)
  have hi : (w.alloc (.cells #[] 114)).ownsRow w.heap.size 114 3 (.slice (some ⟨w.heap.size, 0, none⟩) 0 0) 0 [] := ⟨rfl, .inr ⟨w.heap.size, 0, #[], rfl, Nat.le_refl _, heap_alloc_last w _, Nat.le_refl _, by unfold maxLen; omega, rfl, rfl⟩⟩
  have H := hide5 hL h9 hf h6 hi
  have hs : L.length ≤ 10000 := by omega
  clear h8 hC h7 h9 hf h6 hi hL
  go_enter Tryz.func100, Tryz.ntmps100
  go_wp2_with (at_builtin; refine wpList_append_from _ rfl (.tmp 5) (.tmp 6) 110 110 rfl w.heap.size 114 io _ 3 48 Tryz.underlying110 hn ha hc he rfl _ 0 [] (by rfl) (by exact H.out.2.2.2.2) _ (by rfl) L.length (obc L) (by exact H.out.2.2.2.1) (by unfold maxLen; omega) (by omega) (by exact H.out.2.2.1.size) ?_; intro v1 w3 hg hj hh; rw [Nat.zero_add, List.nil_append] at hg; have H2 := hide2 hg hj; clear hg hj hh)
  go_ret
  obtain ⟨h1, h2, h3, h4, h5⟩ := H.out
  exact ⟨_, L, rfl, h1, h2, H2.out.1, h3.grown H2.out.2 h3.size (fun k e => by cases e; exact Nat.le_refl _)⟩
theorem step_copy_at {ops : Array Oper} {o : Oper} {a : Act} {K : Act → World → Prop} {Q : Exit → Act → World → Prop} {E : Prop} (hg : o.guard = none) (d x : Operand) (dT sT : TypeId) (h0 : o.op = Op.call { callee := Callee.builtin Builtin.copy, args := #[d, x], argTypes := #[dT, sT] })
 (v u : Value) (hd : a.eval d = v) (hx : a.eval x = u) {v' : Value} {w' : World} (hr : (Builtin.copy_ #[dT, sT] o.type #[v, u]).run Tryz.prog w = .ok v' w') (hK : K (a.put o.dst v') w') : if Region.wanted o (yielded ops a.tmps) = true then Oper.wp Tryz.prog o a w K Q else E := by
 rw [if_pos (by simp [Region.wanted, hg])]
 unfold Oper.wp
 simp [execOp, h0, resolve, invoke, builtin, hd, hx, hr, Result.andThen]
 exact hK
theorem ins_take {α : Type} (cur c v : List α) (a m k : Nat) (hc : cur.take k = c) (h0 : c.length = k) (hv : v.length = m) (ha : a ≤ k) (hk : k + m ≤ cur.length) :
 ((cur.take (a + m) ++ c.drop a ++ cur.drop (a + m + (c.drop a).length)).take a ++ v ++ (cur.take (a + m) ++ c.drop a ++ cur.drop (a + m + (c.drop a).length)).drop (a + v.length)).take (k + m) = c.take a ++ (v ++ c.drop a) ∧
 ((cur.take (a + m) ++ c.drop a ++ cur.drop (a + m + (c.drop a).length)).take a ++ v ++ (cur.take (a + m) ++ c.drop a ++ cur.drop (a + m + (c.drop a).length)).drop (a + v.length)).length = cur.length := by
 have e0 : (cur.take (a + m)).length = a + m := by rw [List.length_take]; omega
 have e1 : (cur.take (a + m) ++ c.drop a ++ cur.drop (a + m + (c.drop a).length)).take a = c.take a := by
  rw [List.append_assoc, List.take_append_of_le_length (by omega), List.take_take, Nat.min_eq_left (by omega), ← hc, List.take_take, Nat.min_eq_left ha]
 have e2 : (cur.take (a + m) ++ c.drop a ++ cur.drop (a + m + (c.drop a).length)).drop (a + v.length) = c.drop a ++ cur.drop (a + m + (c.drop a).length) := by
  rw [hv, List.append_assoc]
  exact List.drop_left' e0
 have e3 : (c.take a).length = a := by rw [List.length_take]; omega
 have e4 : (c.drop a).length = k - a := by rw [List.length_drop]; omega
 rw [e1, e2]
 constructor
 · rw [List.append_assoc, ← List.append_assoc v, ← List.append_assoc (c.take a)]
   have : (c.take a ++ (v ++ c.drop a)).length = k + m := by rw [List.length_append, List.length_append]; omega
   rw [← this, List.take_left]
 · simp only [List.length_append, List.length_drop, List.length_take]; omega
theorem heap_drewSet (b : Nat) : ∀ (vs : List Value) (o : Nat) (w : World), (w.drew.setCells b o vs).heap = (w.setCells b o vs).heap
 | [], _, _ => rfl
 | v :: r, o, w => heap_drewSet b r (o + 1) (w.setCell ⟨b, o, none⟩ v)
theorem obc_mid (L : List (Ob × Value)) (x : Ob × Value) (i : Nat) : (obc L).take (i * 3) ++ (ob3 x ++ (obc L).drop (i * 3)) = obc (L.take i ++ x :: L.drop i) := by
 rw [obc_take, obc_drop, obc_append]
 congr 1
theorem objSz : (Tryz.prog.info? 114).map (·.size) = some 3 := by kernel_rfl
theorem insert_room (hg : w.heap[g]? = some (.cells cur 114 (0, 0))) (hy : base ≤ g) (hm : cur.size = cap * 3) (h0 : cur.toList.take (L.length * 3) = obc L) (h6 : ∀ u ∈ obc L, u.oneCell' = true) (hz : ∀ u ∈ ob3 x, u.oneCell' = true)
 (hi : i < L.length) (h7 : L.length + 1 ≤ cap) (hl : L.length ≤ 10000) (hx : w.heap[vb]? = some (.cells (ob3 x).toArray 114 (0, 0))) (k0 : vb ≠ g) :
 Calls Tryz.prog 126 #[.slice (some ⟨g, 0, none⟩) L.length cap, .int .i64 i, .slice (some ⟨vb, 0, none⟩) 1 1] w fun e w' => e = .returned (.slice (some ⟨g, 0, none⟩) (L.length + 1) cap) ∧ Below base w w' ∧ ∃ cur', RowC w' g 114 cur' ∧ cur'.length = cap * 3 ∧ cur'.take ((L.length + 1) * 3) = obc (L.take i ++ x :: L.drop i) := by
 obtain ⟨n, hn⟩ : ∃ n, L.length = n := ⟨_, rfl⟩
 have hR : RowC w g 114 cur.toList := by unfold RowC; exact hg
 have he : RowC w vb 114 (ob3 x) := hx
 have h4 : cur.toList.length = cap * 3 := by simpa using hm
 have hf : ((obc L).drop (i * 3)).length = (n - i) * 3 := by rw [List.length_drop, obc_len, hn]; omega
 have k7 : (ob3 x).length = 3 := rfl
 have k5 : ∀ lb cb ob, (callFunc 154 #[.slice (some ⟨vb, 0, none⟩) 1 1, .slice (some ⟨g, ob, none⟩) lb cb]).run Tryz.prog w = .ok (.value (.bool false)) w := fun lb cb ob => by
  rw [run_callFunc_extern Tryz.func154 (by kernel_rfl) (by kernel_rfl) (by kernel_rfl) (e := Extern.SlicesOverlaps.overlaps #[109, 109] #[4]) (by kernel_rfl),
   Lib.run_overlaps_apart w 109 4 114 Tryz.underlying109 3 (fun w => by obtain ⟨io, k8, k9, hp, ka⟩ := info_parts Tryz.infoObj48; simp [sizeOf, typeInfo, k8, hp]) ⟨vb, 0, none⟩ ⟨g, ob, none⟩ 1 1 lb cb k0 114 114 3 (cap * 3) (by simp [World.shape?, hx]; rfl) (by simp [World.shape?, hg, hm]) (by omega) (he.thaw _) (he.thaw _)]
  rfl
 have h8 : ∀ ty o1 l1 dc o2 l2 sc, o1 = i * 3 + 3 → l1 = n - i → o2 = i * 3 → l2 = n + 1 - i → (Builtin.copy_ #[110, 110] ty #[.slice (some ⟨g, o1, none⟩) l1 dc, .slice (some ⟨g, o2, none⟩) l2 sc]).run Tryz.prog w.drew = .ok (goInt (Nat.min l2 l1)) (w.drew.setCells g (i * 3 + 3) ((obc L).drop (i * 3))) := by
  rintro ty o1 l1 dc o2 l2 sc rfl rfl rfl rfl
  refine run_copy_wide w.drew _ _ ty 114 3 g (i * 3 + 3) _ dc g (i * 3) _ sc 114 cur.toList _ Tryz.underlying110 objSz (by rw [hf]; show _ = min _ _ * 3; rw [Nat.min_eq_right (by omega)]) (fun j u hj => ?_) hR (by rw [hf, h4]; omega) (fun u hu => h6 u (List.mem_of_mem_drop hu))
  refine hR.cell ?_
  rw [List.getElem?_drop] at hj
  have kb : i * 3 + j < L.length * 3 := by obtain ⟨q, _⟩ := List.getElem?_eq_some_iff.1 hj; rwa [obc_len] at q
  rw [← h0, List.getElem?_take_of_lt kb] at hj
  exact hj
 have h5 := hR.set (i * 3 + 3) ((obc L).drop (i * 3)) (by rw [hf, h4]; omega)
 have h9 : RowC (w.setCells g (i * 3 + 3) ((obc L).drop (i * 3))) vb 114 (ob3 x) := he.keep (heap_setCells_other g _ _ _ _ k0)
 obtain ⟨c1, hq⟩ : ∃ c1, cur.toList.take (i * 3 + 3) ++ (obc L).drop (i * 3) ++ cur.toList.drop (i * 3 + 3 + ((obc L).drop (i * 3)).length) = c1 := ⟨_, rfl⟩
 have ha := ins_take cur.toList (obc L) (ob3 x) (i * 3) 3 (L.length * 3) h0 (obc_len L) rfl (by omega) (by rw [h4]; omega)
 rw [hq] at h5 ha
 obtain ⟨hh, hk⟩ := ha
 have h3 : c1.length = cap * 3 := by
  rw [← hq]; simp only [List.length_append, List.length_drop, List.length_take, obc_len, h4]; omega
 have hc : ∀ (W : World), W.heap = (w.setCells g (i * 3 + 3) ((obc L).drop (i * 3))).heap → ∀ ty o1 l1 dc, o1 = i * 3 → l1 = n + 1 - i → (Builtin.copy_ #[110, 109] ty #[.slice (some ⟨g, o1, none⟩) l1 dc, .slice (some ⟨vb, 0, none⟩) 1 1]).run Tryz.prog W = .ok (goInt (Nat.min 1 l1)) (W.setCells g (i * 3) (ob3 x)) := by
  rintro W hW ty o1 l1 dc rfl rfl
  have kc : RowC W g 114 c1 := by unfold RowC; rw [hW]; exact h5
  have hr : RowC W vb 114 (ob3 x) := by unfold RowC; rw [hW]; exact h9
  refine run_copy_wide W _ _ ty 114 3 g (i * 3) _ dc vb 0 1 1 114 c1 _ Tryz.underlying110 objSz (by show _ = min _ _ * 3; rw [Nat.min_eq_left (by omega)]; rfl) (fun j u hj => ?_) kc (by rw [h3, k7]; omega) hz
  rw [Nat.zero_add]
  exact hr.cell hj
 have H := hide3 h5 hh hk
 have kd := hide hR.lt
 have h3 := hide h3
 have hs := hide h4
 have HX := hide2 h8 hc
 have HV := hide k5
 rw [hn] at hi h7 hl ⊢
 have kg : ¬ ((i : Int) = (n : Int)) := by omega
 have kh : IntKind.i64.wrap ((i : Int) + 1) = (i : Int) + 1 := by rw [IntKind.wrap_i64]; omega
 have ki : ¬ (cap : Int) < (n : Int) + 1 := by omega
 have kj : i ≤ n := by omega
 have kk : ¬ (cap = i + 1) := by omega
 have km : ¬ (cap = i) := by omega
 have kn : ((i : Int) + 1).toNat = i + 1 := by omega
 have ko : (0 : Int) ≤ (i : Int) + 1 := by omega
 have kp : (i : Int) ≤ (n : Int) + 1 := by omega
 clear hR he hf k5 h8 hc h5 h9 hq hh hk h4 hm h0 h6 hz hx hg
 go_enter Tryz.func126, Tryz.ntmps126
 go_wp2_with (simp only [HV.out])
 go_region_law (refine step_copy_at rfl _ _ 110 110 rfl _ _ (by simp [Act.eval, Act.put]) (by simp [Act.eval, Act.put]) (HX.out.1 _ ((i + 1) * 3) (n - i) (cap - (i + 1)) (i * 3) (n + 1 - i) (cap - i) (by omega) (by omega) (by omega) (by omega)) ?_)
 have ke : ∀ ty dc, (Builtin.copy_ #[110, 109] ty #[.slice (some ⟨g, i * 3, none⟩) (n + 1 - i) dc, .slice (some ⟨vb, 0, none⟩) 1 1]).run Tryz.prog (w.drew.setCells g (i * 3 + 3) ((obc L).drop (i * 3))) = .ok (goInt (Nat.min 1 (n + 1 - i))) ((w.drew.setCells g (i * 3 + 3) ((obc L).drop (i * 3))).setCells g (i * 3) (ob3 x)) := fun ty dc => HX.out.2 _ (heap_drewSet _ _ _ _) ty (i * 3) (n + 1 - i) dc rfl rfl
 go_wp2
 go_ret
 obtain ⟨h5, hh, hk⟩ := H.out
 have kf : RowC (w.drew.setCells g (i * 3 + 3) ((obc L).drop (i * 3))) g 114 c1 := by unfold RowC; rw [heap_drewSet]; exact h5
 have kr : g < w.heap.size := kd.out
 have k6 : Below base w (w.drew.setCells g (i * 3 + 3) ((obc L).drop (i * 3))) := (Below.refl base w).drew.grown (grown_setCellsA _ _ _ _) (by show base ≤ w.heap.size; omega) (fun k e => by cases e; exact hy)
 refine ⟨rfl, k6.grown (grown_setCellsA _ _ _ _) (Nat.le_trans (by omega) k6.size) (fun k e => by cases e; exact hy), _, kf.set (i * 3) (ob3 x) (by have h1 : c1.length = cap * 3 := h3.out; have h2 : (ob3 x).length = 3 := rfl; omega), ?_, ?_⟩
 · rw [hk]; exact hs.out
 · rw [show (n + 1) * 3 = L.length * 3 + 3 by omega, hh, obc_mid]
theorem insert_grow (hg : w.heap[g]? = some (.cells cur 114 (0, 0))) (km : base ≤ w.heap.size) (kc : cur.size = cap * 3) (h0 : cur.toList.take (L.length * 3) = obc L) (he : ∀ u ∈ obc L, u.oneCell' = true) (kd : ∀ u ∈ ob3 x, u.oneCell' = true)
 (hi : i < L.length) (kn : L.length ≤ cap) (hf : cap < L.length + 1) (hl : L.length ≤ 10000) (hx : w.heap[vb]? = some (.cells (ob3 x).toArray 114 (0, 0))) :
 Calls Tryz.prog 126 #[.slice (some ⟨g, 0, none⟩) L.length cap, .int .i64 i, .slice (some ⟨vb, 0, none⟩) 1 1] w fun e w' => ∃ cap', e = .returned (.slice (some ⟨w.heap.size, 0, none⟩) (L.length + 1) cap') ∧ Below base w w' ∧ L.length + 1 ≤ cap' ∧ cap' ≤ 9223372036854775807 ∧ ∃ cur', RowC w' w.heap.size 114 cur' ∧ cur'.length = cap' * 3 ∧ cur'.take ((L.length + 1) * 3) = obc (L.take i ++ x :: L.drop i) := by
 obtain ⟨io, ke, hh, hk, h8⟩ := info_parts Tryz.infoObj48
 obtain ⟨n, hn⟩ : ∃ n, L.length = n := ⟨_, rfl⟩
 have hR : RowC w g 114 cur.toList := by unfold RowC; exact hg
 have k9 : RowC w vb 114 (ob3 x) := hx
 have ko : cur.toList.length = cap * 3 := by simpa using kc
 have hm : ((obc L).drop (i * 3)).length = (n - i) * 3 := by rw [List.length_drop, obc_len, hn]; omega
 have h9 : ((obc L).take (i * 3)).length = i * 3 := by rw [List.length_take, obc_len, hn]; omega
 have hp : (ob3 x).length = 3 := rfl
 have h7 : ∀ j u, (obc L)[j]? = some u → w.cell? ⟨g, j, none⟩ = some u := fun j u hj => by
  refine hR.cell ?_
  have ka : j < L.length * 3 := by obtain ⟨q, _⟩ := List.getElem?_eq_some_iff.1 hj; rwa [obc_len] at q
  rw [← h0, List.getElem?_take_of_lt ka] at hj
  exact hj
 have hold : (Builtin.firstCells io.size i (.slice (some ⟨g, 0, none⟩) i cap)).run Tryz.prog w.drew = .ok ((obc L).take (i * 3)).toArray w.drew := by
  rw [hk]
  exact run_firstCells_some w.drew 3 i ⟨g, 0, none⟩ i cap _ h9 (fun j u hj => by
   rw [Addr.add_mid, Nat.zero_add]
   rw [List.getElem?_take] at hj
   split at hj
   · exact h7 j u hj
   · cases hj)
 have kf : i + (n + 1 - i) = n + 1 := by omega
 have kg : (n : Int) + 1 - (i : Int) = ((n + 1 - i : Nat) : Int) := by omega
 have hc := fun ty => Lib.run_append_grow_zeros w 110 3 ty 114 io _ .i64 .i64 Tryz.underlying110 Tryz.underlying3 ke hh (some ⟨g, 0, none⟩) i cap _ hold (n + 1 - i) (by omega) (by omega) (by omega) (by omega) (by rw [h8]; omega) (by rw [h8, kf]; exact growslice_fits (by omega) (by omega))
 rw [kf] at hc
 obtain ⟨C, hC⟩ : ∃ C, grownCap w (n + 1) cap 114 = C := ⟨_, rfl⟩
 have kp : n + 1 ≤ C := by rw [← hC]; exact grownCap_ge w _ _ _
 have kr : C ≤ 9223372036854775807 := by
  have := grownCap_le_maxLen w (n + 1) cap 114 (by unfold maxLen; omega)
  rw [hC] at this
  unfold maxLen at this
  omega
 rw [hC] at hc
 obtain ⟨ROW, h4⟩ : ∃ ROW : Array Value, ((obc L).take (i * 3)).toArray ++ Builtin.zeroCells (Value.agg #[.string ByteArray.empty, .int .i64 0, .slice none 0 0]).cells (n + 1 - i) ++ Builtin.zeroCells (Value.agg #[.string ByteArray.empty, .int .i64 0, .slice none 0 0]).cells (C - (n + 1)) = ROW := ⟨_, rfl⟩
 rw [h4] at hc
 have kh : (Value.agg #[.string ByteArray.empty, .int .i64 0, .slice none 0 0]).cells.size = 3 := by rfl
 have k0 : ROW.toList.length = C * 3 := by
  rw [← h4]
  simp only [Array.length_toList, Array.size_append, size_zeroCells, List.size_toArray, kh, h9]
  omega
 have ki : ROW.toList.take (i * 3) = (obc L).take (i * 3) := by
  rw [← h4, Array.toList_append, Array.toList_append, List.append_assoc, List.take_append_of_le_length (by simp [h9])]
  rw [List.take_of_length_le (by simp [h9])]
 obtain ⟨W1, k5⟩ : ∃ W1, w.drew.alloc (.cells ROW 114) = W1 := ⟨_, rfl⟩
 rw [k5] at hc
 have kb : RowC W1 w.heap.size 114 ROW.toList := by rw [← k5]; exact heap_alloc_new w.drew _
 have h1 : Below w.heap.size w W1 := by rw [← k5]; exact (Below.refl _ w).drew.alloc (Nat.le_refl _) _
 have kj : RowC W1 vb 114 (ob3 x) := k9.keep (h1.block _ k9.lt)
 have kk : RowC W1 g 114 cur.toList := hR.keep (h1.block _ hR.lt)
 have h3 : ∀ ty dc, (Builtin.copy_ #[110, 109] ty #[.slice (some ⟨w.heap.size, i * 3, none⟩) (n + 1 - i) dc, .slice (some ⟨vb, 0, none⟩) 1 1]).run Tryz.prog W1 = .ok (goInt (Nat.min 1 (n + 1 - i))) (W1.setCells w.heap.size (i * 3) (ob3 x)) := fun ty dc => by
  refine run_copy_wide W1 _ _ ty 114 3 w.heap.size (i * 3) _ dc vb 0 1 1 114 ROW.toList _ Tryz.underlying110 objSz (by show _ = min _ _ * 3; rw [Nat.min_eq_left (by omega)]; rfl) (fun j u hj => ?_) kb (by rw [k0, hp]; omega) kd
  rw [Nat.zero_add]
  exact kj.cell hj
 have hq := kb.set (i * 3) (ob3 x) (by rw [k0, hp]; omega)
 obtain ⟨W2, k6⟩ : ∃ W2, W1.setCells w.heap.size (i * 3) (ob3 x) = W2 := ⟨_, rfl⟩
 have ks : g < w.heap.size := hR.lt
 have hr : RowC W2 g 114 cur.toList := by rw [← k6]; exact kk.keep (heap_setCells_other _ _ _ _ _ (by omega))
 have ha : Below w.heap.size w W2 := by rw [← k6]; exact h1.grown (grown_setCellsA _ _ _ _) h1.size (fun k e => by cases e; exact Nat.le_refl _)
 rw [k6] at h3 hq
 obtain ⟨c2, k7⟩ : ∃ c2, ROW.toList.take (i * 3) ++ ob3 x ++ ROW.toList.drop (i * 3 + (ob3 x).length) = c2 := ⟨_, rfl⟩
 have h5 : c2.length = C * 3 := by rw [← k7]; simp only [List.length_append, List.length_drop, List.length_take, k0, hp]; omega
 have hs : c2.take (i * 3 + 3) = (obc L).take (i * 3) ++ ob3 x := by
  rw [← k7, ki]
  have : ((obc L).take (i * 3) ++ ob3 x).length = i * 3 + 3 := by rw [List.length_append, h9, hp]
  rw [← this, List.take_left]
 rw [k7] at hq
 have hy : ∀ ty dc sc, (Builtin.copy_ #[110, 110] ty #[.slice (some ⟨w.heap.size, (i + 1) * 3, none⟩) (n - i) dc, .slice (some ⟨g, i * 3, none⟩) (n - i) sc]).run Tryz.prog W2.drew = .ok (goInt (Nat.min (n - i) (n - i))) (W2.drew.setCells w.heap.size ((i + 1) * 3) ((obc L).drop (i * 3))) := fun ty dc sc => by
  refine run_copy_wide W2.drew _ _ ty 114 3 w.heap.size ((i + 1) * 3) _ dc g (i * 3) _ sc 114 c2 _ Tryz.underlying110 objSz (by rw [hm]; show _ = min _ _ * 3; rw [Nat.min_self]) (fun j u hj => ?_) hq (by rw [hm, h5]; omega) (fun u hu => he u (List.mem_of_mem_drop hu))
  have h2 : W2.cell? ⟨g, i * 3 + j, none⟩ = some u := by
   refine hr.cell ?_
   rw [List.getElem?_drop] at hj
   have ka : i * 3 + j < L.length * 3 := by obtain ⟨q, _⟩ := List.getElem?_eq_some_iff.1 hj; rwa [obc_len] at q
   rw [← h0, List.getElem?_take_of_lt ka] at hj
   exact hj
  exact h2
 have k8 : RowC (W2.drew.setCells w.heap.size ((i + 1) * 3) ((obc L).drop (i * 3))) w.heap.size 114 _ := RowC.set (w := W2.drew) hq ((i + 1) * 3) ((obc L).drop (i * 3)) (by rw [hm, h5]; omega)
 have h6 : Below w.heap.size w (W2.drew.setCells w.heap.size ((i + 1) * 3) ((obc L).drop (i * 3))) := ha.drew.grown (grown_setCellsA _ _ _ _) ha.size (fun k e => by cases e; exact Nat.le_refl _)
 have hz : (c2.take ((i + 1) * 3) ++ (obc L).drop (i * 3) ++ c2.drop ((i + 1) * 3 + ((obc L).drop (i * 3)).length)).length = C * 3 ∧ (c2.take ((i + 1) * 3) ++ (obc L).drop (i * 3) ++ c2.drop ((i + 1) * 3 + ((obc L).drop (i * 3)).length)).take ((n + 1) * 3) = obc (L.take i ++ x :: L.drop i) := by
  constructor
  · simp only [List.length_append, List.length_drop, List.length_take, obc_len, h5, hn]; omega
  · rw [show (i + 1) * 3 = i * 3 + 3 by omega, hs]
    have : ((obc L).take (i * 3) ++ ob3 x ++ (obc L).drop (i * 3)).length = (n + 1) * 3 := by rw [List.length_append, List.length_append, h9, hp, hm]; omega
    rw [← this, List.take_left, List.append_assoc, obc_mid]
 have H := hide3 k8 h6 hz
 have HX := hide3 hc h3 hy
 have HB := hide2 kp kr
 rw [hn] at hi hf hl kn ⊢
 have ky : ¬ ((i : Int) = (n : Int)) := by omega
 have kz : IntKind.i64.wrap ((i : Int) + 1) = (i : Int) + 1 := by rw [IntKind.wrap_i64]; omega
 have q0 : (cap : Int) < (n : Int) + 1 := by omega
 have q1 : i ≤ n := by omega
 have q2 : ¬ (C = i + 1) := by omega
 have q3 : ¬ (cap = i) := by omega
 have q4 : ¬ (C = i) := by omega
 have q5 : ((i : Int) + 1).toNat = i + 1 := by omega
 have q6 : (0 : Int) ≤ (i : Int) + 1 := by omega
 have q7 : (i : Int) ≤ (n : Int) + 1 := by omega
 clear hR k9 hm h9 h7 hold hc h4 k0 ki k5 kb h1 kj kk h3 hq k6 hr ha k7 h5 hs hy k8 h6 hz hC kh ko kc h0 he kd hx hg ks ke hh hk h8
 rw [← kg] at HX
 go_enter Tryz.func126, Tryz.ntmps126
 clear kg
 have h3 := HX.out.2.1
 go_wp2_with (at_builtin; refine Lib.wpList_append_run _ rfl _ _ _ _ rfl _ _ rfl rfl _ _ (HX.out.1 _) ?_)
 clear h3
 go_region_law (refine step_copy_at rfl _ _ 110 110 rfl _ _ (by simp [Act.eval, Act.put]) (by simp [Act.eval, Act.put]) (HX.out.2.2 _ (C - (i + 1)) (cap - i)) ?_)
 go_wp2
 go_ret
 obtain ⟨k8, h6, kv, kx⟩ := H.out
 exact ⟨C, rfl, h6.mono km, HB.out.1, HB.out.2, _, k8, kv, kx⟩
theorem one_src (hx : w.heap[vb]? = some (.cells (ob3 x).toArray 114 (0, 0))) (h0 : ∀ u ∈ ob3 x, u.oneCell' = true) : Src Tryz.prog 3 109 (.slice (some ⟨vb, 0, none⟩) 1 1) 1 (ob3 x) w := by
 have h1 : RowC w vb 114 (ob3 x) := hx
 exact Src.ofSlice w Tryz.underlying109 ⟨vb, 0, none⟩ 1 1 (ob3 x) rfl (fun j u hj => by rw [Addr.add_mid, Nat.zero_add]; exact h1.cell hj) h0
theorem insert_end (ho : w.ownsRow base 114 3 u L.length (obc L)) (ha : base ≤ w.heap.size) (hc : ∀ u ∈ ob3 x, u.oneCell' = true) (hl : L.length ≤ 10000) (hx : w.heap[vb]? = some (.cells (ob3 x).toArray 114 (0, 0))) :
 Calls Tryz.prog 126 #[u, .int .i64 (L.length : Nat), .slice (some ⟨vb, 0, none⟩) 1 1] w fun e w' => ∃ u', e = .returned u' ∧ w'.ownsRow base 114 3 u' (L.length + 1) (obc (L ++ [x])) ∧ Below base w w' := by
 obtain ⟨io, hf, h4, h5, h6⟩ := info_parts Tryz.infoObj48
 have h1 := one_src hx hc
 have h2 : ∀ k, u.ownBlock = some k → base ≤ k := fun k e => by
  rcases ho.2 with ⟨rfl, _⟩ | ⟨g, cap, cur, rfl, hh, _⟩
  · cases e
  · cases e; exact hh
 have H := hide3 ho h1 h2
 obtain ⟨n, hn⟩ : ∃ n, L.length = n := ⟨_, rfl⟩
 have he : obc (L ++ [x]) = obc L ++ ob3 x := by rw [obc_append]; congr 1
 rw [he]
 rcases ho.2 with ⟨rfl, h0⟩ | ⟨g, cap, cur, rfl, hh, hg, hi, hj, hk, h7⟩
 · rw [hn] at h0 hl H ⊢
   subst h0
   clear ho h1 h2 hx hc he
   go_enter Tryz.func126, Tryz.ntmps126
   go_wp2_with (at_builtin; refine wpList_append_from _ rfl (.tmp 23) (.tmp 24) 110 109 rfl base 114 io _ 3 48 Tryz.underlying110 hf h4 h5 h6 rfl _ 0 (obc L) (by rfl) (by exact H.out.1) _ (by rfl) 1 (ob3 x) (by exact H.out.2.1) (by unfold maxLen; omega) (by omega) ha ?_; intro v1 w3 h8 h9 h3; have H2 := hide2 h8 h9; clear h8 h9 h3)
   go_ret
   exact ⟨_, rfl, H2.out.1, (Below.refl base w).grown H2.out.2 ha H.out.2.2⟩
 · rw [hn] at hl H hi ⊢
   have hm : n ≤ n := Nat.le_refl n
   clear ho h1 h2 hx hc he h7 hg
   go_enter Tryz.func126, Tryz.ntmps126
   go_wp2_with (at_builtin; refine wpList_append_from _ rfl (.tmp 23) (.tmp 24) 110 109 rfl base 114 io _ 3 48 Tryz.underlying110 hf h4 h5 h6 rfl _ n (obc L) (by rfl) (by exact H.out.1) _ (by rfl) 1 (ob3 x) (by exact H.out.2.1) (by unfold maxLen; omega) (by omega) ha ?_; intro v1 w3 h8 h9 h3; have H2 := hide2 h8 h9; clear h8 h9 h3)
   all_goals (go_ret; exact ⟨_, rfl, H2.out.1, (Below.refl base w).grown H2.out.2 ha H.out.2.2⟩)
theorem row_own {n : Nat} {cur : List Value} (h : RowC w g 114 cur) (hb : base ≤ g) (hn : n = L.length) (hc : n ≤ cap) (h0 : cap ≤ 9223372036854775807) (hl : cur.length = cap * 3) (ht : cur.take (n * 3) = obc L) : w.ownsRow base 114 3 (.slice (some ⟨g, 0, none⟩) n cap) n (obc L) :=
 ⟨by rw [obc_len, hn], .inr ⟨g, cap, cur.toArray, rfl, hb, h, hc, by unfold maxLen; omega, by simpa using hl, by simpa using ht⟩⟩
theorem insert_any (ho : w.ownsRow base 114 3 u L.length (obc L)) (ha : base ≤ w.heap.size) (h8 : ∀ u ∈ obc L, u.oneCell' = true) (hc : ∀ u ∈ ob3 x, u.oneCell' = true) (hl : L.length ≤ 10000) (hx : w.heap[vb]? = some (.cells (ob3 x).toArray 114 (0, 0))) (hk : u.ownBlock ≠ some vb) (hi : i ≤ L.length) :
 Calls Tryz.prog 126 #[u, .int .i64 (i : Nat), .slice (some ⟨vb, 0, none⟩) 1 1] w fun e w' => ∃ u', e = .returned u' ∧ w'.ownsRow base 114 3 u' (L.length + 1) (obc (L.take i ++ x :: L.drop i)) ∧ Below base w w' := by
 rcases Nat.eq_or_lt_of_le hi with e | hf
 · subst e
   rw [List.take_length, List.drop_length]
   exact insert_end ho ha hc hl hx
 · have h9 : L.length + 1 = (L.take i ++ x :: L.drop i).length := by simp; omega
   rcases ho.2 with ⟨rfl, h0⟩ | ⟨g, cap, cur, rfl, hh, hg, hm, hn, hj, h6⟩
   · omega
   · have he : cap ≤ 9223372036854775807 := by unfold maxLen at hn; omega
     by_cases h7 : L.length + 1 ≤ cap
     · refine (insert_room hg hh hj h6 h8 hc hf h7 hl hx (fun e => hk (by rw [e]; rfl))).mono ?_
       rintro e w' ⟨rfl, hb, cur', h1, h2, h3⟩
       exact ⟨_, rfl, row_own h1 hh h9 h7 he h2 h3, hb⟩
     · refine (insert_grow hg ha hj h6 h8 hc hf hm (by omega) hl hx).mono ?_
       rintro e w' ⟨cap', rfl, hb, h4, h5, cur', h1, h2, h3⟩
       exact ⟨_, rfl, row_own h1 ha h9 h4 h5 h2 h3, hb⟩
end Go.Proofs.YtpaemkanfnddoaaGreatDoor
