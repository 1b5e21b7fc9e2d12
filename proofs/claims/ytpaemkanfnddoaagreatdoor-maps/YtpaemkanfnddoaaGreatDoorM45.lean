import Derived.Test.YtpaemkanfnddoaaGreatDoorM44
import Derived.Test.YtpaemkanfnddoaaGreatDoorM41
set_option maxRecDepth 100000
set_option maxHeartbeats 8000000
namespace Go.Proofs.YtpaemkanfnddoaaGreatDoor
open Go.RowKit Go.Deep Gf
variable {A : Arr} {x : ByteArray} {F : Foot} {Q : List (ByteArray × Value)} {P l : List Nat} {base ar v p ps D L G t q1 q2 sa f n B B' : Nat} {xs : Obs} {T : TypeId} {u r pg ob : Value} {w w' b a c : World}
def GetR (xs : Obs) (x : ByteArray) (base : Nat) (u r : Value) (w : World) : Prop :=
 (r = errV 6 ∧ u = .slice none 0 0 ∧ namedB x = false) ∨ (r = errV 9 ∧ u = .slice none 0 0 ∧ namedB x = true ∧ x ∉ xs.names) ∨
 (r = .nilIface ∧ namedB x = true ∧ ∃ k0, ∃ hk : k0 < xs.length, xs[k0].1.name = x ∧ w.ownsRow base 5 1 u xs[k0].2.length (bts xs[k0].2))
theorem GetR.noCut (h : GetR xs x base u r w) : noCut r := by
 rcases h with ⟨rfl, _⟩ | ⟨rfl, _⟩ | ⟨rfl, _⟩
 · exact .inr ⟨6, by decide, rfl⟩
 · exact .inr ⟨9, by decide, rfl⟩
 · exact .inl rfl
theorem GetR.isSlice (h : GetR xs x base u r w) : ∃ ao n c, u = .slice ao n c := by
 rcases h with ⟨_, rfl, _⟩ | ⟨_, rfl, _⟩ | ⟨_, _, k0, hk, _, ho⟩
 · exact ⟨_, _, _, rfl⟩
 · exact ⟨_, _, _, rfl⟩
 · obtain ⟨pa, pc, e⟩ := own_slice ho
   exact ⟨_, _, _, e⟩
theorem GetR.keep {base' : Nat} (h : GetR xs x base u r w) (hb : base' ≤ base) (hk : ∀ (j : Nat) (cs : Array Value), w.heap[j]? = some (.cells cs 5 (0, 0)) → w'.heap[j]? = w.heap[j]?) : GetR xs x base' u r w' := by
 rcases h with h | h | ⟨h1, h2, k0, h4, h3, ho⟩
 · exact .inl h
 · exact .inr (.inl h)
 · refine .inr (.inr ⟨h1, h2, k0, h4, h3, ho.1, ?_⟩)
   rcases ho.2 with h0 | ⟨g, cap, cur, e1, e2, e3, rr⟩
   · exact .inl h0
   · exact .inr ⟨g, cap, cur, e1, Nat.le_trans hb e2, (hk _ _ e3).trans e3, rr⟩
theorem get_all (h : Live w ar v p ps D L G t pg ob P xs A F) (x : ByteArray) :
 Calls Tryz.prog 40 #[.pointer (some ⟨ar, 0, none⟩), .string x] w fun e w' => ∃ u r rs, e = .returned (.tuple #[u, r]) ∧ ArrAt w' p (A.rd rs) F ∧ Outside (F.has p A.n) w w' ∧ GetR xs x w.heap.size u r w' := by
 cases hx : namedB x with
 | false =>
  refine (get_name h x hx).mono ?_
  rintro e w' ⟨rfl, hb⟩
  exact ⟨_, _, A.reads, rfl, h.vol.arr.below hb (Nat.le_refl _), Outside.of_all hb _, .inl ⟨rfl, rfl, hx⟩⟩
 | true =>
  by_cases hm : x ∈ xs.names
  · obtain ⟨k0, h0, hn⟩ : ∃ k0, ∃ h0 : k0 < xs.length, xs[k0].1.name = x := by
     obtain ⟨k, hk, e⟩ := List.getElem_of_mem hm
     have hl : xs.names.length = xs.length := by rw [← names_os, namesOf_len]; simp [Obs.os]
     refine ⟨k, by omega, ?_⟩
     simpa [Obs.names, namesOf, Obs.os] using e
    refine (get_ok h x hx k0 h0 hn).mono ?_
    rintro e w' ⟨u, rs, rfl, ho, hl, hO⟩
    exact ⟨u, _, rs, rfl, hl.vol.arr, hO, .inr (.inr ⟨rfl, hx, k0, h0, hn, ho⟩)⟩
  · refine (get_missing h x hx hm).mono ?_
    rintro e w' ⟨rfl, hb⟩
    exact ⟨_, _, A.reads, rfl, h.vol.arr.below hb (Nat.le_refl _), Outside.of_all hb _, .inr (.inl ⟨rfl, rfl, hx, hm⟩)⟩
def GePost (w : World) (ar v p ps D L G t : Nat) (xs : Obs) (A : Arr) (F : Foot) (x : ByteArray) (e : Ending) (w' : World) : Prop :=
 ∃ u r rs pg ob P, e = .returned (.tuple #[u, r]) ∧ Live w' ar v p ps D L G t pg ob P xs (A.rd rs) F ∧ Outside (fun j => j = ar ∨ F.has p A.n j) w w' ∧ GetR xs x w.heap.size u r w'
theorem get1_any {w1 : World} {q3 : Nat} (h : Live w ar v p ps D L G t pg ob P xs A F) (x : ByteArray) (hb : Below w.heap.size w w1) (h1 : Boxed w1 q1 84 (.pointer (some ⟨ar, 0, none⟩))) (h2 : Boxed w1 q2 9 (.string x)) (h3 : Boxed w1 q3 31 (.slice none 0 0)) (hq : w.heap.size ≤ q3) :
 Calls Tryz.prog 39 #[.pointer (some ⟨q1, 0, none⟩), .pointer (some ⟨q2, 0, none⟩), .pointer (some ⟨q3, 0, none⟩)] w1 fun e w2 => ∃ u r rs, e = .returned r ∧ Live w2 ar v p ps D L G t pg ob P xs (A.rd rs) F ∧ Outside (fun j => F.has p A.n j ∨ j = q3) w1 w2 ∧ GetR xs x w.heap.size u r w2 ∧ Boxed w2 q3 31 u := by
 have g1 := h1.cell
 have g2 := h2.cell
 have hg := get_all (h.below hb) x
 have h4 : ∀ j, F.has p A.n j → j < w.heap.size := fun j hj => h.vol.arr.has_lt hj
 have H := hide4 h h3 h4 hb
 clear h h1 h2 h3 h4 hb
 go_enter Tryz.func39, Tryz.ntmps39
 go_wp2_with fail
 refine hg.mono ?_
 rintro e w2 ⟨u, r, rs, rfl, hA, hO, hR⟩
 obtain ⟨h, h3, h4, hb⟩ := H.out
 have h5 : Boxed w2 q3 31 (.slice none 0 0) := (hO.block _ h3.lt (fun e => by have := h4 _ e; omega)).trans h3
 have y0 := h5.cell
 have y1 := h5.frozen
 obtain ⟨ao, n, c, rfl⟩ := hR.isSlice
 have H2 := hide4 hA hO hR h5
 clear hA hO hR h5 hg g1 g2 h h3 h4 hb
 go_wp2
 go_ret
 obtain ⟨hA, hO, hR, h5⟩ := H2.out
 obtain ⟨h, h3, h4, hb⟩ := H.out
 have h6 : Boxed (w2.setCell ⟨q3, 0, none⟩ (.slice ao n c)) q3 31 (.slice ao n c) := h5.set _
 have h0 : ∀ j, j ≠ q3 → (w2.setCell ⟨q3, 0, none⟩ (.slice ao n c)).heap[j]? = w2.heap[j]? := fun j hj => blk_setCell_other _ _ _ _ hj
 have h7 : Outside (F.has p A.n) w w2 := (Outside.of_all hb _).trans hO
 have h8 : Outside (F.has p A.n) w (w2.setCell ⟨q3, 0, none⟩ (.slice ao n c)) := h7.later (T := fun j => w.heap.size ≤ j) ⟨rfl, rfl, rfl, by simp [World.setCell], fun j _ hj => h0 j (by omega)⟩ (fun j h1 h2 => by omega)
 refine ⟨_, r, rs, rfl, h.reads h8 rs (hA.keep fun j hj => h0 j (by have := h4 j hj; omega)), ?_, hR.keep hb.size (fun j cs hj => h0 j (fun e => by subst e; rw [h5] at hj; cases hj)), h6⟩
 exact (hO.mono fun j _ hj => .inl hj).trans ⟨rfl, rfl, rfl, by simp [World.setCell], fun j _ hj => h0 j (fun e => hj (.inr e))⟩
theorem aGet (h : Live w ar v p ps D L G t pg ob P xs A F) (x : ByteArray) :
 Calls Tryz.prog 29 #[.pointer (some ⟨ar, 0, none⟩), .string x] w (GePost w ar v p ps D L G t xs A F x) := by
 have hq : ∀ (fn : Fn) (first cap : Array Value) (w : World), (Instr.makeFunc fn first cap).run Tryz.prog w = .ok (.func fn first cap) w := fun _ _ _ _ => rfl
 have hk : ∀ (args : Array Value) (w : World), (callFunc 39 args).run Tryz.prog w = .ok (.enter 39 args) w := enters_of Tryz.func39 (by kernel_rfl) rfl
 obtain ⟨w3, h7⟩ : ∃ w3, ((w.alloc (.cells #[.pointer (some ⟨ar, 0, none⟩)] 84)).alloc (.cells #[.string x] 9)).alloc (.cells #[.slice none 0 0] 31) = w3 := ⟨_, rfl⟩
 have h1 : Boxed w3 w.heap.size 84 (.pointer (some ⟨ar, 0, none⟩)) := by rw [← h7]; exact ((Boxed.new w _ _).alloc _).alloc _
 have h2 : Boxed w3 (w.heap.size + 1) 9 (.string x) := by
  have := (Boxed.new (w.alloc (.cells #[.pointer (some ⟨ar, 0, none⟩)] 84)) 9 (.string x)).alloc (.cells #[.slice none 0 0] 31)
  rw [World.size_alloc] at this
  rw [← h7]; exact this
 have h3 : Boxed w3 (w.heap.size + 2) 31 (.slice none 0 0) := by
  have := Boxed.new ((w.alloc (.cells #[.pointer (some ⟨ar, 0, none⟩)] 84)).alloc (.cells #[.string x] 9)) 31 (.slice none 0 0)
  simp only [World.size_alloc] at this
  rw [← h7]; exact this
 have h5 : Below w.heap.size w w3 := by rw [← h7]; exact (((Below.refl _ w).alloc (Nat.le_refl _) _).alloc (by simp) _).alloc (by simp; omega) _
 have he := h.below h5
 have hr := h3.lt
 have hf := arcDoT he 39 #[] #[.pointer (some ⟨w.heap.size, 0, none⟩), .pointer (some ⟨w.heap.size + 1, 0, none⟩), .pointer (some ⟨w.heap.size + 2, 0, none⟩)] hk
  (fun r t' xs' B w2 => ∃ u rs, GetR xs x w.heap.size u r w2 ∧ Boxed w2 (w.heap.size + 2) 31 u ∧ t' = t ∧ xs' = xs ∧ B = A.rd rs) (fun j => j = w.heap.size + 2) (fun j e => by omega)
  (fun r t' xs' B w2 w' hg => by
   rintro ⟨u, rs, hR, hB, hE⟩
   have hh : ∀ j, w2.heap[j]? ≠ some (Obj.cells #[Value.nilIface] 49 (0, 0)) → w'.heap[j]? = w2.heap[j]? := fun j hj => hg.2.2 j (fun e => by subst e; exact hj hg.1)
   refine ⟨u, rs, hR.keep (Nat.le_refl _) (fun j cs hj => hh j (by rw [hj]; simp)), (hh _ (by rw [hB]; simp)).trans hB, hE⟩)
  (fun w1 h8 hs => (get1_any h x (h5.trans (h8.mono h5.size)) ((h8.block _ h1.lt).trans h1) ((h8.block _ h2.lt).trans h2) ((h8.block _ h3.lt).trans h3) (by omega)).mono (by
   rintro e w2 ⟨u, r, rs, rfl, hl, hO, hR, hB⟩
   exact ⟨r, t, pg, ob, P, xs, A.rd rs, rfl, hR.noCut, hl, rfl, rfl, hO.mono fun j _ hj => hj.elim (fun q => .inr (.inl q)) (fun q => .inr (.inr q)), u, rs, hR, hB, rfl, rfl, rfl⟩))
 have c1 := h1.cell
 have H := hide3 hf h5 h
 clear hf h5 h1 h2 h3 h he
 go_enter Tryz.func29, Tryz.ntmps29
 go_wp2_with fail
 refine H.out.1.mono ?_
 rintro e w8 ⟨r, t', pg', ob', P', xs', B, rfl, hm, h9, hn, hc, ha, u, rs, h6, hi, rfl, rfl, rfl⟩
 have h4 : Boxed w8 (w.heap.size + 1 + 1) 31 u := hi
 have y0 := h4.cell
 have y1 := h4.frozen
 obtain ⟨ao, n, c, rfl⟩ := h6.isSlice
 have H8 := hide4 ha h6 h4 h9
 clear h9 ha h6 hi h4 hm hn hc
 go_wp2
 obtain ⟨ha, h6, h4, h9⟩ := H8.out
 have c3 := (h4.set (.slice ao n c)).cell
 refine bodyPost_ret (v := .tuple #[.slice ao n c, r]) (by simp [results, Tryz.results29, go_sem, c3]) rfl ?_
 have h0 : Below w8.heap.size w8 (w8.setCell ⟨w.heap.size + 1 + 1, 0, none⟩ (.slice ao n c)) := ⟨rfl, rfl, rfl, by simp [World.setCell], fun j hj => by
  by_cases e : j = w.heap.size + 1 + 1
  · subst e; exact (h4.set (.slice ao n c)).trans h4.symm
  · exact blk_setCell_other _ _ _ _ e⟩
 refine ⟨_, r, rs, pg', ob', P', rfl, h9.below h0, ?_, h6.keep (Nat.le_refl _) (fun j cs hj => h0.block j (Array.getElem?_eq_some_iff.1 hj).1)⟩
 have hp : Outside (fun j => j = ar ∨ F.has p A.n j) w w8 := (Outside.of_all H.out.2.1 (fun j => j = ar ∨ F.has p A.n j)).later (T := fun j => j = ar ∨ F.has p A.n j ∨ j = w.heap.size + 2) ha (fun j h1 h2 => by
  rcases h2 with q | q | q
  · exact .inl q
  · exact .inr q
  · omega)
 exact hp.trans (Outside.of_all h0 _)
theorem sGet (hs : Boxed w sa 86 (.pointer (some ⟨ar, 0, none⟩))) (h : Live w ar v p ps D L G t pg ob P xs A F) (x : ByteArray) :
 Calls Tryz.prog 13 #[.pointer (some ⟨sa, 0, none⟩), .string x] w (GePost w ar v p ps D L G t xs A F x) := by
 have cs := hs.cell
 have hc := aGet h x
 clear hs h
 go_enter Tryz.func13, Tryz.ntmps13
 go_wp2_with fail
 refine hc.mono ?_
 rintro e w8 ⟨u, r, rs, pg', ob', P', rfl, h0⟩
 have H8 := hide h0
 clear h0 hc
 go_wp2
 go_ret2
 exact ⟨u, r, rs, pg', ob', P', rfl, H8.out⟩
def en2 (o : Ob) : List Value := [.string o.name, .int .i64 (o.size : Nat)]
def enc2 (os : List Ob) : List Value := os.flatMap en2
theorem enc2_snoc (os : List Ob) (k : Nat) (hk : k < os.length) : enc2 (os.take (k + 1)) = enc2 (os.take k) ++ en2 os[k] := by
 unfold enc2
 rw [List.take_add_one, List.getElem?_eq_getElem hk, List.flatMap_append]
 simp
theorem Tryz.infoEntry : (Tryz.prog.info? 65).map (fun i => (i.zero, i.size, i.bytes)) = some (some (.agg #[.string ByteArray.empty, .int .i64 0]), 2, 24) := by kernel_rfl
def LiR (w : World) (q : Nat) (os : List Ob) (i : Value) (wr : World) : Prop := ∃ k : Nat, k ≤ os.length ∧ i = .int .i64 (k : Nat) ∧ ∃ u, Boxed wr q 61 u ∧ wr.ownsRow w.heap.size 65 2 u k (enc2 (os.take k)) ∧ Outside (fun j => j = q) w wr
theorem list1_any {os : List Ob} {K : Nat → Prop} (h1 : Boxed w q1 84 (.pointer (some ⟨ar, 0, none⟩))) (h2 : Boxed w q2 61 (.slice none 0 0)) (ha : ArcAt w ar v D L G t f n pg ob false) (hC : Cat K w ob os) (hK : ∀ k, K k → k ≠ q2) (kf : os.length ≤ 10000) :
 Calls Tryz.prog 47 #[.pointer (some ⟨q1, 0, none⟩), .pointer (some ⟨q2, 0, none⟩)] w fun e w' => e = .returned .nilIface ∧ ∃ u, Boxed w' q2 61 u ∧ w'.ownsRow w.heap.size 65 2 u os.length (enc2 os) ∧ Outside (fun j => j = q2) w w' := by
 obtain ⟨_, _, _, _, c8⟩ := ha.cells
 have g1 := h1.cell
 obtain ⟨ie, k6, hc, he, hf⟩ := info_parts Tryz.infoEntry
 obtain ⟨oo, oc, rfl, k7, _⟩ := id hC
 obtain ⟨nn, hs⟩ : ∃ nn, os.length = nn := ⟨_, rfl⟩
 rw [hs] at c8
 have H := hide3 h2 hC hs
 have k8 := h2.lt
 have kg : nn ≤ 10000 := by omega
 clear h1 h2 ha hC k7
 go_enter Tryz.func47, Tryz.ntmps47
 go_wp2
 go_loopw [10] (fun i wr => LiR w q2 os i wr) (fun i _ => nn - (intOf i).toNat)
 case atStart => exact ⟨0, Nat.zero_le _, rfl, _, H.out.1, World.ownsRow_nil _ _ _ _, Outside.refl _ _⟩
 case round =>
  clear c8 g1
  obtain ⟨k, hk, rfl, u, hB, ho, hO⟩ := hrel
  by_cases hg : k < os.length
  · have hx : KpS K w wr := ⟨hO.size, fun j hj k9 => hO.block j hj (fun e => hK j k9 e)⟩
    obtain ⟨b, off, sv, rfl, hb, _, r1, r2, r3, r4⟩ := (H.out.2.1.keep hx).at' (k := k) hg
    obtain ⟨sa, sc, rfl, _⟩ := id r4
    obtain ⟨nm, hh⟩ : ∃ nm, os[k].name = nm := ⟨_, rfl⟩
    obtain ⟨sz, hi⟩ : ∃ sz : Int, ((os[k].size : Nat) : Int) = sz := ⟨_, rfl⟩
    obtain ⟨sl, hy⟩ : ∃ sl, os[k].stripes.length = sl := ⟨_, rfl⟩
    have h9 : enc2 (os.take (k + 1)) = enc2 (os.take k) ++ [.string nm, .int .i64 sz] := by rw [enc2_snoc os k hg]; unfold en2; rw [hh, hi]
    rw [hh] at r1
    rw [hi] at r2
    rw [hy] at r3
    have ka : k < nn := by rw [← H.out.2.2]; exact hg
    have kb : (k : Int) < (nn : Int) := by omega
    obtain ⟨w3, hm⟩ : ∃ w3, wr.alloc (.cells #[.string nm, .int .i64 sz, .slice sa sl sc] 114) = w3 := ⟨_, rfl⟩
    have hn : RowC w3 wr.heap.size 114 [.string nm, .int .i64 sz, .slice sa sl sc] := by rw [← hm]; exact heap_alloc_last wr _
    have h7 : Below wr.heap.size wr w3 := by rw [← hm]; exact (Below.refl _ wr).alloc (Nat.le_refl _) _
    have kc : w3.heap.size = wr.heap.size + 1 := by rw [← hm]; simp
    have x0 := hn.cell (j := 0) (u := .string nm) rfl
    have x1 := hn.cell (j := 1) (u := .int .i64 sz) rfl
    have hz : Boxed w3 q2 61 u := (h7.block _ hB.lt).trans hB
    have xq := hz.cell
    have k0 : RowC (w3.alloc (.cells #[.string nm, .int .i64 sz] 65)) w3.heap.size 65 [.string nm, .int .i64 sz] := heap_alloc_last w3 _
    have h0 : Below wr.heap.size wr (w3.alloc (.cells #[.string nm, .int .i64 sz] 65)) := h7.alloc (by omega) _
    have h4 : Src Tryz.prog 2 61 (.slice (some ⟨w3.heap.size, 0, none⟩) 1 1) 1 [.string nm, .int .i64 sz] (w3.alloc (.cells #[.string nm, .int .i64 sz] 65)) :=
     Src.ofSlice _ Tryz.underlying61 ⟨w3.heap.size, 0, none⟩ 1 1 [.string nm, .int .i64 sz] rfl (fun j u hj => by rw [Addr.add_mid, Nat.zero_add]; exact k0.cell hj) (fun u hu => by
      simp only [List.mem_cons, List.not_mem_nil, or_false] at hu
      rcases hu with rfl | rfl <;> rfl)
    have hp : (w3.alloc (.cells #[.string nm, .int .i64 sz] 65)).ownsRow w.heap.size 65 2 u k (enc2 (os.take k)) := ownsRow_below ho h0
    have HR := hide8 hB ho hO h4 hp h0 h9 h7
    have kh : IntKind.i64.wrap ((k : Int) + 1) = (k : Int) + 1 := by rw [IntKind.wrap_i64]; omega
    clear hB ho hO h4 hp h0 h9 h7 hn k0 hz hx r4 hh hi hy hb kc
    go_wp2_with (at_builtin; refine wpList_append_from _ rfl (.tmp 14) (.tmp 20) 61 61 rfl w.heap.size 65 ie _ 2 24 Tryz.underlying61 k6 hc he hf rfl u k (enc2 (os.take k)) (by rfl) (by exact HR.out.2.2.2.2.1) _ (by rfl) 1 [.string nm, .int .i64 sz] (by exact HR.out.2.2.2.1) (by unfold maxLen; omega) (by omega) (by exact Nat.le_trans HR.out.2.2.1.size HR.out.2.2.2.2.2.1.size) ?_; intro v7 w7 h6 h3 hq; have h5 : Boxed w7 q2 61 u := (h3.block _ (Nat.lt_of_lt_of_le HR.out.1.lt HR.out.2.2.2.2.2.1.size) (fun e => own_apart HR.out.2.1 HR.out.1 (by decide) e.symm)).trans ((HR.out.2.2.2.2.2.1.block _ HR.out.1.lt).trans HR.out.1); have z0 := h5.cell; have z1 := h5.frozen; obtain ⟨va, vc, rfl⟩ := own_slice h6; have H7 := hide3 h6 h3 h5; clear h6 h3 hq h5)
    obtain ⟨hB, ho, hO, h4, hp, h0, h9, h7⟩ := HR.out
    obtain ⟨h6, h3, h5⟩ := H7.out
    have hr : Boxed (w7.setCell ⟨q2, 0, none⟩ (.slice va (k + 1) vc)) q2 61 (.slice va (k + 1) vc) := h5.set _
    have h8 : ∀ j, j ≠ q2 → (w7.setCell ⟨q2, 0, none⟩ (.slice va (k + 1) vc)).heap[j]? = w7.heap[j]? := fun j hj => blk_setCell_other _ _ _ _ hj
    have ki := h3.size
    have kj := h0.size
    refine ⟨⟨k + 1, by omega, by go_num, _, hr, ?_, ?_⟩, ?_⟩
    · rw [h9]
      exact own_keepO h6 (S := fun j => j = q2) ⟨rfl, rfl, rfl, by simp [World.setCell], fun j _ hj => h8 j hj⟩ fun j hj e => own_apart h6 (e ▸ h5 : w7.heap[j]? = _) (by decide) hj
    · refine ⟨h3.os.trans (h0.os.trans hO.os), h3.tape.trans (h0.tape.trans hO.tape), h3.output.trans (h0.output.trans hO.output), by have := hO.size; simp [World.setCell]; omega, fun j hj k5 => ?_⟩
      have kd : j < wr.heap.size := Nat.lt_of_lt_of_le hj hO.size
      exact (h8 j k5).trans ((h3.block j (by omega) (fun e => by have := own_ge ho e.symm; omega)).trans ((h0.block j kd).trans (hO.block j hj k5)))
    · simp only [intOf]; omega
  · have ke : k = nn := by have := H.out.2.2; omega
    subst ke
    have HF := hide3 hB ho hO
    clear hB ho hO
    go_wp2
    go_ret
    obtain ⟨hB, ho, hO⟩ := HF.out
    refine ⟨rfl, u, hB, ?_, hO⟩
    rw [List.take_of_length_le (by have := H.out.2.2; omega), ← H.out.2.2] at ho
    exact ho
def LsPost (w : World) (xs : Obs) (e : Ending) (w' : World) : Prop := ∃ u, e = .returned (.tuple #[u, .nilIface]) ∧ Below w.heap.size w w' ∧ w'.ownsRow w.heap.size 65 2 u xs.os.length (enc2 xs.os)
theorem own_aside {b : Nat} {l : List Value} (h : w.ownsRow base 65 2 u n l) (hb : w.heap[b]? = some (.cells #[.nilIface] 49 (0, 0))) (hk : ∀ j, j ≠ b → w'.heap[j]? = w.heap[j]?) : w'.ownsRow base 65 2 u n l := by
 refine ⟨h.1, ?_⟩
 rcases h.2 with h0 | ⟨g, cap, cur, e1, e2, e3, rr⟩
 · exact .inl h0
 · exact .inr ⟨g, cap, cur, e1, e2, (hk g (fun e => by subst e; rw [hb] at e3; cases e3)).trans e3, rr⟩
theorem aList (h : Live w ar v p ps D L G t pg ob P xs A F) :
 Calls Tryz.prog 33 #[.pointer (some ⟨ar, 0, none⟩)] w (LsPost w xs) := by
 have hy : ∀ (fn : Fn) (first cap : Array Value) (w : World), (Instr.makeFunc fn first cap).run Tryz.prog w = .ok (.func fn first cap) w := fun _ _ _ _ => rfl
 have hp : ∀ (args : Array Value) (w : World), (callFunc 47 args).run Tryz.prog w = .ok (.enter 47 args) w := enters_of Tryz.func47 (by kernel_rfl) rfl
 obtain ⟨w3, hc⟩ : ∃ w3, (w.alloc (.cells #[.pointer (some ⟨ar, 0, none⟩)] 84)).alloc (.cells #[.slice none 0 0] 61) = w3 := ⟨_, rfl⟩
 have h1 : Boxed w3 w.heap.size 84 (.pointer (some ⟨ar, 0, none⟩)) := by rw [← hc]; exact (Boxed.new w _ _).alloc _
 have h2 : Boxed w3 (w.heap.size + 1) 61 (.slice none 0 0) := by
  have := Boxed.new (w.alloc (.cells #[.pointer (some ⟨ar, 0, none⟩)] 84)) 61 (.slice none 0 0)
  rw [World.size_alloc] at this
  rw [← hc]; exact this
 have h8 : Below w.heap.size w w3 := by rw [← hc]; exact ((Below.refl _ w).alloc (Nat.le_refl _) _).alloc (by simp) _
 have hg := h.below h8
 have hz := h2.lt
 have hh := arcDoT hg 47 #[] #[.pointer (some ⟨w.heap.size, 0, none⟩), .pointer (some ⟨w.heap.size + 1, 0, none⟩)] hp
  (fun r t' xs' B w2 => r = .nilIface ∧ xs' = xs ∧ (∀ j, j < w.heap.size → w2.heap[j]? = w.heap[j]?) ∧ ∃ u, Boxed w2 (w.heap.size + 1) 61 u ∧ w2.ownsRow w.heap.size 65 2 u xs.os.length (enc2 xs.os)) (fun j => j = w.heap.size + 1) (fun j e => by omega)
  (fun r t' xs' B w2 w' h9 => by
   rintro ⟨e1, e3, e4, u, hB, ho⟩
   exact ⟨e1, e3, fun j hj => (h9.2.2 j (by omega)).trans (e4 j hj), u, (h9.2.2 _ (fun e => by have e5 := h9.1; rw [← e, hB] at e5; cases e5)).trans hB, own_aside ho h9.1 h9.2.2⟩)
  (fun w1 he k0 => by
   have h3 : Below w.heap.size w w1 := h8.trans (he.mono h8.size)
   have hq := h.below h3
   have hC : Cat (fun k => k < w.heap.size) w1 ob xs.os := h.cat.any.keep (KpS.of_below h3)
   refine (list1_any ((he.block _ h1.lt).trans h1) ((he.block _ h2.lt).trans h2) hq.arc hC (fun k hk => by omega) (by have := h.few.1; omega)).mono ?_
   rintro e w2 ⟨rfl, u, hB, ho, hO⟩
   have hi : Below w.heap.size w w2 := h3.trans (hO.below (B := w.heap.size) fun k hk => ⟨Nat.lt_of_lt_of_le hk h3.size, by omega⟩)
   exact ⟨_, t, pg, ob, P, xs, A, rfl, .inl rfl, h.below hi, rfl, rfl, hO.mono fun j _ hj => .inr (.inr hj), rfl, rfl, fun j hj => hi.block j hj, u, hB, ownsRow_weaken ho h3.size⟩)
 have c1 := h1.cell
 have H := hide3 hh h8 h
 clear hh h8 h1 h2 h hg
 go_enter Tryz.func33, Tryz.ntmps33
 go_wp2_with fail
 refine H.out.1.mono ?_
 rintro e w8 ⟨r, t', pg', ob', P', xs', B, rfl, hr, hs, hx, hf, h6, rfl, rfl, ha, u, h4, h7⟩
 have y0 := h4.cell
 have y1 := h4.frozen
 obtain ⟨ao, c, rfl⟩ := own_slice h7
 obtain ⟨n, hn⟩ : ∃ n, xs'.os.length = n := ⟨_, rfl⟩
 rw [hn] at y0 h4
 have H8 := hide5 h6 h7 h4 ha hn
 clear hs h6 h7 h4 ha hr hx hf hn
 go_wp2
 obtain ⟨h6, h7, h4, ha, hn⟩ := H8.out
 have c3 := (h4.set (.slice ao n c)).cell
 refine bodyPost_ret (v := .tuple #[.slice ao n c, .nilIface]) (by simp [results, Tryz.results33, go_sem, c3]) rfl ?_
 have h5 : Below w8.heap.size w8 (w8.setCell ⟨w.heap.size + 1, 0, none⟩ (.slice ao n c)) := ⟨rfl, rfl, rfl, by simp [World.setCell], fun j hj => by
  by_cases e : j = w.heap.size + 1
  · subst e; exact (h4.set (.slice ao n c)).trans h4.symm
  · exact blk_setCell_other _ _ _ _ e⟩
 rw [hn] at h7
 have h0 := H.out.2.1
 have hm : w.heap.size ≤ w8.heap.size := Nat.le_trans h0.size h6.size
 exact ⟨_, rfl, (Below.mk (h6.os.trans h0.os) (h6.tape.trans h0.tape) (h6.output.trans h0.output) hm ha).trans (h5.mono hm), by rw [hn]; exact ownsRow_below h7 h5⟩
theorem sList (hs : Boxed w sa 86 (.pointer (some ⟨ar, 0, none⟩))) (h : Live w ar v p ps D L G t pg ob P xs A F) :
 Calls Tryz.prog 21 #[.pointer (some ⟨sa, 0, none⟩)] w (LsPost w xs) := by
 have cs := hs.cell
 have hc := aList h
 clear hs h
 go_enter Tryz.func21, Tryz.ntmps21
 go_wp2_with fail
 refine hc.mono ?_
 rintro e w8 ⟨u, rfl, h0⟩
 have H8 := hide h0
 clear h0 hc
 go_wp2
 go_ret2
 exact ⟨u, rfl, H8.out⟩
def Kd (B : Nat) (T : TypeId) (w w' : World) : Prop := ∀ j cs, j < B → w.heap[j]? = some (.cells cs T (0, 0)) → w'.heap[j]? = w.heap[j]?
theorem Kd.below (h : Below w.heap.size w w') (B : Nat) (T : TypeId) : Kd B T w w' := fun j _ _ hj => h.block j (Array.getElem?_eq_some_iff.1 hj).1
theorem Kd.trans (h : Kd B T a b) (k : Kd B T b c) : Kd B T a c := fun j cs hB hj => (k j cs hB ((h j cs hB hj).trans hj)).trans (h j cs hB hj)
theorem Kd.mono (h : Kd B T a b) (hB : B' ≤ B) : Kd B' T a b := fun j cs hj q => h j cs (by omega) q
def Law (T : TypeId) : Prop := T = 46 ∨ T = 67 ∨ T = 86 ∨ T = 5
def Kds (B : Nat) (w w' : World) : Prop := ∀ T, Law T → Kd B T w w'
theorem Kds.below (h : Below w.heap.size w w') (B : Nat) : Kds B w w' := fun T _ => Kd.below h B T
theorem Kds.trans (h : Kds B a b) (k : Kds B b c) : Kds B a c := fun T hT => (h T hT).trans (k T hT)
theorem Kds.mono (h : Kds B a b) (hB : B' ≤ B) : Kds B' a b := fun T hT => (h T hT).mono hB
theorem Kds.live {off : Bool} (hA : ArrAt w p A F) (ha : ArcAt w ar v D L G t f n pg ob off) (hO : Outside (fun j => j = ar ∨ F.has p A.n j) w w') : Kds B w w' := fun T hT j cs _ hj => hO.block j (Array.getElem?_eq_some_iff.1 hj).1 (fun q => by
 have h0 : T ≠ 112 ∧ T ≠ 72 ∧ T ≠ 76 ∧ T ≠ 240 ∧ T ≠ 4 := by
  rcases hT with rfl | rfl | rfl | rfl <;> exact ⟨by decide, by decide, by decide, by decide, by decide⟩
 rcases q with q | q
 · subst q
   have h1 : w.heap[j]? = some (.cells (arcA v D L G t f n pg ob off) 112 (0, 0)) := ha
   rw [hj] at h1
   simp only [Option.some.injEq, Obj.cells.injEq] at h1
   exact h0.1 h1.2.1
 · obtain ⟨cs', T', h2, hk⟩ := hA.kind q
   rw [hj] at h2
   simp only [Option.some.injEq, Obj.cells.injEq] at h2
   have eT := h2.2.1
   rcases hk with k | k | k | k
   · exact h0.2.1 (eT.trans k)
   · exact h0.2.2.1 (eT.trans k)
   · exact h0.2.2.2.1 (eT.trans k)
   · exact h0.2.2.2.2 (eT.trans k))
theorem own_kd {size : Nat} {v : Value} {xs : List Value} (h : w.ownsRow base T size v n xs) (hk : Kd B T w w') (hB : w.heap.size ≤ B) : w'.ownsRow base T size v n xs := by
 refine ⟨h.1, ?_⟩
 rcases h.2 with h0 | ⟨g, cap, cur, e1, e2, e3, rr⟩
 · exact .inl h0
 · exact .inr ⟨g, cap, cur, e1, e2, (hk _ _ (Nat.lt_of_lt_of_le (Array.getElem?_eq_some_iff.1 e3).1 hB) e3).trans e3, rr⟩
def Ow (w : World) (v : Value) (l : List Nat) : Prop := (∃ base, w.ownsRow base 5 1 v l.length (bts l)) ∧ (∀ x ∈ l, x < 256) ∧ l.length ≤ 1500
theorem Ow.nil (w : World) : Ow w (.slice none 0 0) [] := ⟨⟨0, World.ownsRow_nil _ _ _ _⟩, fun x hx => (by cases hx), by decide⟩
theorem Ow.keep {v : Value} (h : Ow w v l) (hk : Kd w.heap.size 5 w w') : Ow w' v l := by
 obtain ⟨⟨base, h1⟩, h2, h3⟩ := h
 exact ⟨⟨base, own_kd h1 hk (Nat.le_refl _)⟩, h2, h3⟩
theorem Ow.bs {v : Value} (h : Ow w v l) : Bs w v l := by
 obtain ⟨⟨base, ho⟩, hx, hl⟩ := h
 rcases ho.2 with ⟨rfl, h0⟩ | ⟨g, cap, cur, rfl, e2, e3, e4, e5, e6, e7⟩
 · have : l = [] := List.eq_nil_of_length_eq_zero h0
   subst this
   exact ⟨none, 0, rfl, Nat.le_refl _, by decide, fun x h => (by cases h), fun h => absurd rfl h⟩
 · refine ⟨_, cap, rfl, e4, by omega, hx, fun _ => ⟨g, 0, rfl, fun k hk => ?_⟩⟩
   have hc := ho.cells (g := g) rfl k (.int .u8 ((l.getD k 0 : Nat) : Int)) (by
    unfold bts
    rw [List.getElem?_map, List.getElem?_eq_getElem hk, List.getD_eq_getElem?_getD, List.getElem?_eq_getElem hk]; rfl)
   rw [add0] at hc
   rw [Nat.zero_add]; exact hc
theorem Ow.sl {v : Value} (h : Ow w v l) : isSl v ∧ vLen v = l.length := by
 obtain ⟨⟨base, ho⟩, _, hl⟩ := h
 obtain ⟨pa, pc, rfl⟩ := own_slice ho
 exact ⟨⟨_, _, _, rfl, by omega⟩, rfl⟩
def Rlo (w : World) : List (ByteArray × Value) → Obs → Prop
 | [], [] => True
 | q :: Q, x :: xs => (q.1 = x.1.name ∧ Ow w q.2 x.2) ∧ Rlo w Q xs
 | _, _ => False
theorem Rlo.len : ∀ {Q : List (ByteArray × Value)} {xs : Obs}, Rlo w Q xs → Q.length = xs.length
 | [], [], _ => rfl
 | [], _ :: _, h => h.elim
 | _ :: _, [], h => h.elim
 | _ :: Q, _ :: xs, h => by rw [List.length_cons, List.length_cons, Rlo.len h.2]
theorem Rlo.names : ∀ {Q : List (ByteArray × Value)} {xs : Obs}, Rlo w Q xs → pNames Q = xs.names
 | [], [], _ => rfl
 | [], _ :: _, h => h.elim
 | _ :: _, [], h => h.elim
 | q :: Q, x :: xs, h => by
  have e : pNames (q :: Q) = q.1 :: pNames Q := rfl
  have e2 : Obs.names (x :: xs) = x.1.name :: Obs.names xs := rfl
  rw [e, e2, h.1.1, Rlo.names h.2]
theorem Rlo.keep (hk : ∀ v l, Ow w v l → Ow w' v l) : ∀ {Q : List (ByteArray × Value)} {xs : Obs}, Rlo w Q xs → Rlo w' Q xs
 | [], [], _ => trivial
 | [], _ :: _, h => h.elim
 | _ :: _, [], h => h.elim
 | _ :: _, _ :: _, h => ⟨⟨h.1.1, hk _ _ h.1.2⟩, Rlo.keep hk h.2⟩
theorem Rlo.take : ∀ {Q : List (ByteArray × Value)} {xs : Obs} (k : Nat), Rlo w Q xs → Rlo w (Q.take k) (xs.take k)
 | _, _, 0, _ => by simp only [List.take_zero]; exact trivial
 | [], [], _ + 1, _ => trivial
 | [], _ :: _, _ + 1, h => h.elim
 | _ :: _, [], _ + 1, h => h.elim
 | _ :: _, _ :: _, k + 1, h => ⟨h.1, Rlo.take k h.2⟩
theorem Rlo.drop : ∀ {Q : List (ByteArray × Value)} {xs : Obs} (k : Nat), Rlo w Q xs → Rlo w (Q.drop k) (xs.drop k)
 | _, _, 0, h => h
 | [], [], _ + 1, _ => trivial
 | [], _ :: _, _ + 1, h => h.elim
 | _ :: _, [], _ + 1, h => h.elim
 | _ :: _, _ :: _, k + 1, h => Rlo.drop k h.2
theorem Rlo.app : ∀ {Q Q' : List (ByteArray × Value)} {xs xs' : Obs}, Rlo w Q xs → Rlo w Q' xs' → Rlo w (Q ++ Q') (xs ++ xs')
 | [], _, [], _, _, h' => h'
 | [], _, _ :: _, _, h, _ => h.elim
 | _ :: _, _, [], _, h, _ => h.elim
 | _ :: _, _, _ :: _, _, h, h' => ⟨h.1, Rlo.app h.2 h'⟩
theorem Rlo.at : ∀ {Q : List (ByteArray × Value)} {xs : Obs}, Rlo w Q xs → ∀ k (h1 : k < Q.length) (h2 : k < xs.length), Q[k].1 = xs[k].1.name ∧ Ow w Q[k].2 xs[k].2
 | [], _, _, _, h1, _ => absurd h1 (by simp)
 | _ :: _, [], h, _, _, _ => h.elim
 | _ :: _, _ :: _, h, 0, _, _ => h.1
 | _ :: Q, _ :: xs, h, k + 1, h1, h2 => Rlo.at h.2 k (by simpa using h1) (by simpa using h2)
theorem Rlo.sl : ∀ {Q : List (ByteArray × Value)} {xs : Obs}, Rlo w Q xs → ∀ o ∈ Q, isSl o.2
 | [], _, _, _, h => by cases h
 | _ :: _, [], h, _, _ => h.elim
 | q :: Q, x :: xs, h, o, ho => by
  rcases List.mem_cons.1 ho with rfl | ho
  · exact h.1.2.sl.1
  · exact Rlo.sl h.2 o ho
theorem Rlo.stripes (D : Nat) : ∀ {Q : List (ByteArray × Value)} {xs : Obs}, Rlo w Q xs → (Q.map fun o => vLen o.2 / (D * 44) + 1).sum = sumSt D xs
 | [], [], _ => rfl
 | [], _ :: _, h => h.elim
 | _ :: _, [], h => h.elim
 | q :: Q, x :: xs, h => by
  unfold sumSt
  rw [List.map_cons, List.map_cons, List.sum_cons, List.sum_cons, h.1.2.sl.2, Rlo.stripes D h.2]; rfl
theorem nameOk_iff (x : ByteArray) : nameOk x ↔ namedB x = true := by unfold nameOk namedB; simp
theorem isNone_iff (h : Rlo w Q xs) (x : ByteArray) : isNone Q x ↔ x ∉ xs.names := by
 rw [← h.names]
 constructor
 · intro hn hm
   obtain ⟨k, hk, e⟩ := List.getElem_of_mem hm
   have h0 : k < Q.length := by unfold pNames at hk; rwa [List.length_map] at hk
   refine hn k h0 ?_
   rw [← e]; simp [pNames]
 · intro hm j hj e
   refine hm ?_
   rw [← toList_inj e]
   exact List.mem_map.2 ⟨Q[j], List.getElem_mem hj, rfl⟩
theorem isAt_place (h : Rlo w Q xs) (hu : Up xs.names) {x : ByteArray} {k : Nat} (ha : isAt Q x k) : placeN xs.names x = k ∧ k < Q.length ∧ x ∈ xs.names := by
 obtain ⟨hk, e, _⟩ := ha
 have hl : k < (pNames Q).length := by unfold pNames; rw [List.length_map]; exact hk
 have e' : (pNames Q)[k] = x := by simp only [pNames, List.getElem_map]; exact toList_inj e
 rw [← h.names] at hu ⊢
 exact ⟨placeN_there hu hl e', hk, e' ▸ List.getElem_mem hl⟩
section
structure MB (w0 w : World) (wb D L G nb t : Nat) (xs : Obs) (p r sa ar v ps : Nat) (pg ob : Value) (P : List Nat) (A : Arr) (F : Foot) (out want : Value) (cache : Int) : Prop where
 wbA : WbAt w wb D L G (.pointer (some ⟨p, 0, none⟩)) (.pointer (some ⟨sa, 0, none⟩)) (.pointer (some ⟨r, 0, none⟩)) nb out want cache
 box : Boxed w sa 86 (.pointer (some ⟨ar, 0, none⟩))
 live : Live w ar v p ps D L G t pg ob P xs A F
 nb : A.nb = nb
 base : Below w0.heap.size w0 w
 glob : globalLaid w0
 hK : 3 ≤ w0.heap.size
 wbB : w0.heap.size ≤ wb
 lt : wb < ar
 fB : ∀ k, F.has p A.n k → w0.heap.size ≤ k
structure Dc (w : World) (r : Nat) (Q : List (ByteArray × Value)) (xs : Obs) (out want : Value) : Prop where
 ref : ∃ rb rv, RAt w r rb rv Q
 rel : Rlo w Q xs
 ow : ∃ l, Ow w out l ∧ Ow w want l
def MS (w0 w : World) (wb D L G nb T : Nat) : Prop := ∃ t xs Q p r sa ar v ps pg ob P A F out want cache, MB w0 w wb D L G nb t xs p r sa ar v ps pg ob P A F out want cache ∧ Dc w r Q xs out want ∧ t ≤ T
theorem Kds.ref {r rb : Nat} {rv : Value} (h : RAt w r rb rv Q) (hk : Kds B w w') (hB : w.heap.size ≤ B) : RAt w' r rb rv Q :=
 ⟨(hk _ (.inl rfl) r _ (Nat.lt_of_lt_of_le (Array.getElem?_eq_some_iff.1 h.top).1 hB) h.top).trans h.top, own_kd h.own (hk _ (.inr (.inl rfl))) hB⟩
theorem Kds.box (h : Boxed w sa 86 u) (hk : Kds B w w') (hB : w.heap.size ≤ B) : Boxed w' sa 86 u :=
 (hk _ (.inr (.inr (.inl rfl))) sa _ (Nat.lt_of_lt_of_le h.lt hB) h).trans h
theorem Kds.ow (h : Ow w u l) (hk : Kds B w w') (hB : w.heap.size ≤ B) : Ow w' u l := h.keep ((hk _ (.inr (.inr (.inr rfl)))).mono hB)
theorem Dc.keep {r : Nat} {out want : Value} (h : Dc w r Q xs out want) (hk : Kds B w w') (hB : w.heap.size ≤ B) : Dc w' r Q xs out want := by
 obtain ⟨rb, rv, hr⟩ := h.ref
 obtain ⟨l, o1, o2⟩ := h.ow
 exact ⟨⟨rb, rv, hk.ref hr hB⟩, h.rel.keep fun _ _ o => hk.ow o hB, ⟨l, hk.ow o1 hB, hk.ow o2 hB⟩⟩
theorem globalLaid.below (h : globalLaid w) (hb : Below w.heap.size w w') : globalLaid w' := by
 have hg : w.cell? ⟨0, 0, none⟩ = _ := h
 exact (hb.cell (block_lt_of_cell hg)).trans hg
section
variable {w0 w w' : World} {wb D L G nb t : Nat} {xs : Obs} {p r sa ar v ps : Nat} {pg ob : Value} {P : List Nat} {A : Arr} {F : Foot} {out want : Value} {cache : Int}
theorem MB.gl (h : MB w0 w wb D L G nb t xs p r sa ar v ps pg ob P A F out want cache) : globalLaid w := h.glob.below h.base
theorem MB.next (h : MB w0 w wb D L G nb t xs p r sa ar v ps pg ob P A F out want cache) (hk : Kds w.heap.size w w') (hw : w'.heap[wb]? = w.heap[wb]?) (hb : Below w0.heap.size w0 w') {t' : Nat} {xs' : Obs} {pg' ob' : Value} {P' : List Nat} {B : Arr} (hl : Live w' ar v p ps D L G t' pg' ob' P' xs' B F) (hn : B.n = A.n) (h0 : B.nb = A.nb) :
 MB w0 w' wb D L G nb t' xs' p r sa ar v ps pg' ob' P' B F out want cache :=
 ⟨RowC.keep h.wbA hw, hk.box h.box (Nat.le_refl _), hl, h0.trans h.nb, hb, h.glob, h.hK, h.wbB, h.lt, by rw [hn]; exact h.fB⟩
theorem MB.below (h : MB w0 w wb D L G nb t xs p r sa ar v ps pg ob P A F out want cache) (hb : Below w.heap.size w w') : MB w0 w' wb D L G nb t xs p r sa ar v ps pg ob P A F out want cache :=
 h.next (Kds.below hb _) (hb.block _ (RowC.lt h.wbA)) (h.base.trans (hb.mono h.base.size)) (h.live.below hb) rfl rfl
theorem MB.wbF (h : MB w0 w wb D L G nb t xs p r sa ar v ps pg ob P A F out want cache) : ¬ F.has p A.n wb ∧ wb ≠ v := by
 have hw : w.heap[wb]? = some (.cells _ 40 (0, 0)) := h.wbA
 refine ⟨fun q => ?_, fun e => ?_⟩
 · obtain ⟨cs, T, hT, hk⟩ := h.live.vol.arr.kind q
   rw [hw] at hT
   simp only [Option.some.injEq, Obj.cells.injEq] at hT
   have eT := hT.2.1
   rcases hk with k | k | k | k <;> exact absurd (eT.trans k) (by decide)
 · have h2 := h.live.vol.vol
   unfold VolAt at h2
   rw [← e, hw] at h2; cases h2
theorem MB.call (h : MB w0 w wb D L G nb t xs p r sa ar v ps pg ob P A F out want cache) (hO : Outside (fun j => j = ar ∨ F.has p A.n j) w w') {t' : Nat} {xs' : Obs} {pg' ob' : Value} {P' : List Nat} {B : Arr} (hl : Live w' ar v p ps D L G t' pg' ob' P' xs' B F) (hn : B.n = A.n) (h0 : B.nb = A.nb) :
 MB w0 w' wb D L G nb t' xs' p r sa ar v ps pg' ob' P' B F out want cache ∧ Kds w.heap.size w w' := by
 have hk := Kds.live (B := w.heap.size) h.live.vol.arr h.live.arc hO
 refine ⟨h.next hk (hO.block _ (RowC.lt h.wbA) (fun q => ?_)) (h.base.trans (hO.below fun k hk => ⟨Nat.lt_of_lt_of_le hk h.base.size, fun q => ?_⟩)) hl hn h0, hk⟩
 · rcases q with q | q
   · have := h.lt; omega
   · exact h.wbF.1 q
 · have := h.wbB
   have := h.lt
   rcases q with q | q
   · omega
   · have := h.fB k q; omega
theorem MB.write (h : MB w0 w wb D L G nb t xs p r sa ar v ps pg ob P A F out want cache) (hO : Outside (fun j => j = wb) w w') {r' : Nat} {out' want' : Value} {cache' : Int}
 (hW : WbAt w' wb D L G (.pointer (some ⟨p, 0, none⟩)) (.pointer (some ⟨sa, 0, none⟩)) (.pointer (some ⟨r', 0, none⟩)) nb out' want' cache') :
 MB w0 w' wb D L G nb t xs p r' sa ar v ps pg ob P A F out' want' cache' ∧ Kds w.heap.size w w' := by
 obtain ⟨f1, f2⟩ := h.wbF
 have h0 : ∀ j, j ≠ wb → j < w.heap.size → w'.heap[j]? = w.heap[j]? := fun j hj hl => hO.block j hl hj
 have hw : w.heap[wb]? = some (.cells _ 40 (0, 0)) := h.wbA
 have hk : Kds w.heap.size w w' := fun T hT j cs hl hj => h0 j (fun e => by
  subst e; rw [hw] at hj; simp only [Option.some.injEq, Obj.cells.injEq] at hj
  have e := hj.2.1
  rcases hT with q | q | q | q <;> exact absurd (e.trans q) (by decide)) hl
 exact ⟨⟨hW, hk.box h.box (Nat.le_refl _), h.live.other hO.size h0 h.lt f2 f1 (by have := h.hK; have := h.wbB; omega), h.nb, h.base.trans (hO.below fun k hk => ⟨Nat.lt_of_lt_of_le hk h.base.size, fun q => by have := h.wbB; omega⟩), h.glob, h.hK, h.wbB, h.lt, h.fB⟩, hk⟩
end
end
end Go.Proofs.YtpaemkanfnddoaaGreatDoor
