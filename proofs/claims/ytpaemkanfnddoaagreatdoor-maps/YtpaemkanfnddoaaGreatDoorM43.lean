import Derived.Test.YtpaemkanfnddoaaGreatDoorM42
import Derived.Test.YtpaemkanfnddoaaGreatDoorM40
set_option maxRecDepth 100000
set_option maxHeartbeats 8000000
namespace Go.Proofs.YtpaemkanfnddoaaGreatDoor
open Go.RowKit Go.Deep
variable {A : Arr} {F : Foot} {L : List (ByteArray × Value)} {P : List Nat} {xs ys : List Value} {base n size g a m r b ar p ps D G t : Nat} {K : Nat → Prop} {e : TypeId} {v u vb pg ob : Value} {w w1 w3 w' w5 w6 : World}
theorem own_sliceR (h : w.ownsRow base e size v n xs) : ∃ pa pc, v = .slice pa n pc := by
 rcases h.2 with ⟨h0, h1⟩ | ⟨g, cap, cur, e1, _⟩
 · exact ⟨none, 0, by rw [h0, h1]⟩
 · exact ⟨_, _, e1⟩
def pNames (L : List (ByteArray × Value)) : List ByteArray := L.map (·.1)
theorem mid_take (h0 : ∀ k (hk : k < L.length), w1.cell? ⟨g, k * 2, none⟩ = some (.string L[k].1) ∧ w1.cell? ⟨g, k * 2 + 1, none⟩ = some L[k].2) (hg : g < w1.heap.size) (hb : Below w1.heap.size w1 w3) (hs : ∀ o ∈ L, isSl o.2) (ha : a ≤ L.length) : ∀ c, Src Tryz.prog 2 44 (.slice (some ⟨g, 0, none⟩) a c) a (oCells (L.take a)) w3 := fun c =>
 mid_src (by rw [List.length_take]; omega) (fun j hj => by
  rw [List.length_take] at hj
  obtain ⟨q1, q2⟩ := h0 j (by omega)
  rw [Nat.zero_add, List.getElem_take]
  exact ⟨(World.cell?_of_block (hb.block g hg)).trans q1, (World.cell?_of_block (hb.block g hg)).trans q2⟩) (isSl_take hs a)
theorem mid_drop (h0 : ∀ k (hk : k < L.length), w1.cell? ⟨g, k * 2, none⟩ = some (.string L[k].1) ∧ w1.cell? ⟨g, k * 2 + 1, none⟩ = some L[k].2) (hg : g < w1.heap.size) (hb : Below w1.heap.size w1 w3) (hs : ∀ o ∈ L, isSl o.2) (ha : a ≤ L.length) : ∀ c, Src Tryz.prog 2 44 (.slice (some ⟨g, a * 2, none⟩) (L.length - a) c) (L.length - a) (oCells (L.drop a)) w3 := fun c =>
 mid_src (by rw [List.length_drop]) (fun j hj => by
  rw [List.length_drop] at hj
  obtain ⟨q1, q2⟩ := h0 (a + j) (by omega)
  rw [List.getElem_drop, show a * 2 + j * 2 = (a + j) * 2 by omega]
  exact ⟨(World.cell?_of_block (hb.block g hg)).trans q1, (World.cell?_of_block (hb.block g hg)).trans q2⟩) (isSl_drop hs a)
theorem mid_none {k : Nat} (h : k = L.length) (off c : Nat) (w : World) : Src Tryz.prog 2 44 (.slice (some ⟨g, off, none⟩) (L.length - k) c) (L.length - k) (oCells (L.drop k)) w := by
 subst h
 rw [Nat.sub_self, List.drop_length]
 exact Src.ofSlice w Tryz.underlying44 ⟨g, off, none⟩ 0 c [] rfl (fun j u hj => by simp at hj) (fun u hu => by simp at hu)
theorem one_obj (w4 : World) (name : ByteArray) (ba : Option Addr) (n bc : Nat) : Src Tryz.prog 2 44 (.slice (some ⟨w4.heap.size, 0, none⟩) 1 1) 1 [.string name, .slice ba n bc] (w4.alloc (.cells #[.string name, .slice ba n bc] 67)) :=
 Src.ofSlice _ Tryz.underlying44 ⟨w4.heap.size, 0, none⟩ 1 1 [.string name, .slice ba n bc] rfl (fun j u hj => by
  rw [Addr.add_mid, Nat.zero_add]
  have hx := heap_alloc_last w4 (.cells #[.string name, .slice ba n bc] 67)
  have e : (#[Value.string name, .slice ba n bc] : Array Value)[j]? = some u := by simpa using hj
  simp only [World.cell?, hx]
  exact e) (fun u hu => by
  simp only [List.mem_cons, List.not_mem_nil, or_false] at hu
  rcases hu with rfl | rfl <;> rfl)
theorem keepB {b1 b2 : Nat} (hb : w.ownsRow b1 5 1 v n xs) (hr : w.ownsRow b2 67 2 u m ys) (hg : w.grownBy w' u.ownBlock) : w'.ownsRow b1 5 1 v n xs := by
 refine ⟨hb.1, ?_⟩
 rcases hb.2 with h0 | ⟨g, cap, cur, e1, e2, e3, rr⟩
 · exact .inl h0
 · refine .inr ⟨g, cap, cur, e1, e2, (hg.block g (Array.getElem?_eq_some_iff.1 e3).1 (fun e => ?_)).trans e3, rr⟩
   rcases hr.2 with ⟨rfl, _⟩ | ⟨g', cap', cur', rfl, _, e3', _⟩
   · cases e
   · have e' : g' = g := by simpa [Value.ownBlock] using e.symm
     subst e'
     rw [e3] at e3'
     cases e3'
theorem own_geR (h : w.ownsRow base e size v n xs) {k : Nat} (hk : v.ownBlock = some k) : base ≤ k := by
 rcases h.2 with ⟨rfl, _⟩ | ⟨g, cap, cur, rfl, e2, _⟩
 · cases hk
 · have e' : g = k := by simpa [Value.ownBlock] using hk
   omega
theorem put_third {w4 : World} {o : Obj} (_ : RAt w r base v L) (h7 : w3.ownsRow w.heap.size 5 1 vb n xs) (h1 : Below w.heap.size w w3) (h8 : w4.ownsRow w.heap.size 67 2 u a ys) (h2 : Below w3.heap.size w3 w4) (h3 : (w4.alloc o).grownBy w5 u.ownBlock) : Below w.heap.size w w5 ∧ w5.ownsRow w.heap.size 5 1 vb n xs := by
 have h0 : Below w4.heap.size w4 (w4.alloc o) := (Below.refl _ w4).alloc (Nat.le_refl _) _
 have h4 : Below w.heap.size w w4 := h1.trans (h2.mono h1.size)
 have h5 : Below w.heap.size w (w4.alloc o) := h4.trans (h0.mono h4.size)
 have h6 := ownsRow_below h8 h0
 exact ⟨h5.grown h3 h5.size (fun k e => own_geR h6 e), keepB (ownsRow_below (ownsRow_below h7 h2) h0) h6 h3⟩
theorem put_fourth (h0 : w5.ownsRow w.heap.size 67 2 u a ys) (h1 : Below w.heap.size w w5) (h3 : w5.ownsRow w.heap.size 5 1 vb n xs) (h2 : w5.grownBy w6 u.ownBlock) : Below w.heap.size w w6 ∧ w6.ownsRow w.heap.size 5 1 vb n xs :=
 ⟨h1.grown h2 h1.size (fun _ e => own_geR h0 e), keepB h3 h0 h2⟩
def RpOk (w : World) (r : Nat) (L : List (ByteArray × Value)) (x : ByteArray) (d : List Nat) (e : Ending) (w' : World) : Prop :=
 e = .returned (.int .i64 0) ∧ ∃ u vb, RAt w' r w.heap.size u (L.take (placeN (pNames L) x) ++ (x, vb) :: L.drop (placeN (pNames L) x)) ∧ w'.ownsRow w.heap.size 5 1 vb d.length (bts d) ∧ Outside (fun j => j = r) w w'
theorem put_last {x : ByteArray} {d : List Nat} (hn : d.length = n) (h3 : placeN (pNames L) x = a) (h2 : w6.ownsRow w.heap.size 67 2 u m (oCells (L.take a) ++ [.string x, vb] ++ oCells (L.drop a))) (h4 : Below w.heap.size w w6) (h5 : w6.ownsRow w.heap.size 5 1 vb n (bts d)) (h6 : w6.heap[r]? = some (.cells #[v] 46 (0, 0))) (hr : r < w.heap.size) : RpOk w r L x d (.returned (.int .i64 0)) (w6.setCell ⟨r, 0, none⟩ u) := by
 have h1 : ∀ j, j ≠ r → (w6.setCell ⟨r, 0, none⟩ u).heap[j]? = w6.heap[j]? := fun j hj => blk_setCell_other _ _ _ _ hj
 have hg : w6.grownBy (w6.setCell ⟨r, 0, none⟩ u) (some r) := ⟨rfl, rfl, rfl, by simp [World.setCell], fun j _ hj => h1 j (fun e => hj (by rw [e]))⟩
 have ec : oCells (L.take a) ++ [.string x, vb] ++ oCells (L.drop a) = oCells (L.take a ++ (x, vb) :: L.drop a) := by
  rw [oCells_append, List.append_assoc]; rfl
 have hm : m = (L.take a ++ (x, vb) :: L.drop a).length := by
  have := h2.1
  rw [ec, oCells_len] at this
  omega
 rw [ec, hm] at h2
 have keepO : ∀ {e : TypeId} {size k : Nat} {z : Value} {xs : List Value}, w6.ownsRow w.heap.size e size z k xs → (w6.setCell ⟨r, 0, none⟩ u).ownsRow w.heap.size e size z k xs := fun {e size k z xs} h => by
  refine ⟨h.1, ?_⟩
  rcases h.2 with h0 | ⟨g, cap, cur, e1, e2, e3, rr⟩
  · exact .inl h0
  · exact .inr ⟨g, cap, cur, e1, e2, (h1 g (by omega)).trans e3, rr⟩
 refine ⟨rfl, u, vb, ?_, ?_, ?_⟩
 · rw [h3]
   refine ⟨?_, keepO h2⟩
   have := heap_setCell_at (j := 0) h6 u
   exact this
 · rw [hn]; exact keepO h5
 · exact (Outside.of_all h4 _).trans ⟨rfl, rfl, rfl, by simp [World.setCell], fun j _ hj => h1 j hj⟩
def PuR (w : World) (L : List (ByteArray × Value)) (x : ByteArray) (i : Value) (wr : World) : Prop := ∃ k : Nat, k ≤ L.length ∧ i = .int .i64 k ∧ wr = w ∧ ∀ j (hj : j < L.length), j < k → ltN L[j].1 x = true
theorem rput_row {cap : Nat} (h : RAt w r base (.slice (some ⟨g, 0, none⟩) L.length cap) L) (hl : L.length ≤ 100000) (hs : ∀ o ∈ L, isSl o.2) (name : ByteArray) (ao : Option Addr) (c : Nat) (d : List Nat) (hd : Bs w (.slice ao d.length c) d) (q3 : d.length ≤ 1500) (kp : nameOk name) (kz : isNone L name) (h1 : ∀ k (hk : k < L.length), w.cell? ⟨g, k * 2, none⟩ = some (.string L[k].1) ∧ w.cell? ⟨g, k * 2 + 1, none⟩ = some L[k].2) (ki : g < w.heap.size) (q4 : L.length ≤ cap) :
 Calls Tryz.prog 28 #[.pointer (some ⟨r, 0, none⟩), .string name, .slice ao d.length c] w (RpOk w r L name d) := by
 obtain ⟨c0, f0⟩ := h.cell
 have hc := rfind_any h (by omega) name
 obtain ⟨id, hid, k0, k6, k7⟩ := info_parts Tryz.infoRobj
 obtain ⟨ib, kr, ke, kf, kg⟩ := info_parts Tryz.infoByteR
 have h0 : ¬ name.size = 0 := by have := kp.1; omega
 have n0 : ¬ (name.size : Int) = 0 := by omega
 have n1 : ¬ (16 : Int) < (name.size : Int) := by have := kp.2; omega
 obtain ⟨n, hn⟩ : ∃ n, d.length = n := ⟨_, rfl⟩
 have ks := bytes_srcR hd
 rw [hn] at ks q3 ⊢
 have n2 : ¬ (1500 : Int) < (n : Int) := by omega
 have he : r < w.heap.size := block_lt_of_cell c0
 have HS := hide3 ks h hn
 clear kp h ks hd hn
 go_enter Tryz.func28, Tryz.ntmps28
 go_wp2_with fail
 refine hc.mono ?_
 rintro e w1 ⟨rfl, hf⟩
 rcases hf with ⟨k, hk, rfl, hn, ko⟩ | ⟨rfl, kj⟩
 · exact absurd hn (kz k hk)
 clear hc kj kz
 go_wp2
 go_loopw [8] (fun i wr => PuR w1 L name i wr) (fun i _ => L.length - (intOf i).toNat)
 case atStart => exact ⟨0, Nat.zero_le _, rfl, rfl, fun j _ h => by omega⟩
 case round =>
  obtain ⟨k, hk, rfl, rfl, ha⟩ := hrel
  by_cases kv : k < L.length
  · obtain ⟨q1, q2⟩ := h1 k kv
    obtain ⟨nm, kk⟩ : ∃ nm, L[k].1 = nm := ⟨_, rfl⟩
    rw [kk] at q1
    have kx : (k : Int) < (L.length : Int) := by omega
    cases h4 : ltN nm name with
    | true =>
     have q5 : Op.bytesLess nm.toList name.toList = true := h4
     have k8 : PuR wr L name (.int .i64 ((k + 1 : Nat) : Int)) wr := ⟨k + 1, by omega, rfl, rfl, fun j hj h => by
      rcases Nat.eq_or_lt_of_le (Nat.le_of_lt_succ h) with e | h'
      · subst e; rw [kk]; exact h4
      · exact ha j hj h'⟩
     have HN := hide k8
     clear k8 ha q2 kk h1
     go_wp2
     refine ⟨by simpa using HN.out, ?_⟩
     show L.length - ((k : Int) + 1).toNat < L.length - ((k : Int)).toNat
     omega
    | false =>
     have q5 : Op.bytesLess nm.toList name.toList = false := h4
     have kh : placeN (pNames L) name = k := placeN_uniq _ _ _ (by unfold pNames; rw [List.length_map]; omega) (fun j hj h => by
      unfold pNames at hj ⊢
      rw [List.getElem_map]
      exact ha j (by rwa [List.length_map] at hj) h) (fun hi => by simp only [pNames, List.getElem_map, kk]; exact h4)
     have k3 : ¬ cap = k := by omega
     have k4 : k ≤ cap := by omega
     have k5 : (k : Int) ≤ (cap : Int) := by omega
     clear ha q2 kk
     have HP := hide2 kh h1
     clear kh h1
     go_wp2_with (first
      | (at_builtin; refine wpList_append_from _ rfl (.tmp 48) (.tmp 49) 31 31 rfl wr.heap.size 5 ib (.int .u8 0) 1 1 Tryz.underlying31 kr ke kf kg rfl (.slice none 0 0) 0 [] rfl (World.ownsRow_nil _ _ _ _) _ rfl n (bts d) HS.out.1 (by unfold maxLen; omega) (by omega) (Nat.le_refl _) ?_; intro vb w3 h5 h2 hg; rw [Nat.zero_add, List.nil_append] at h5; have h6 : Below wr.heap.size wr w3 := ⟨h2.os, h2.tape, h2.output, h2.size, fun j hj => h2.block j hj (by simp [Value.ownBlock])⟩; have hh := (h6.block r he).trans HS.out.2.1.top; have c3 : w3.cell? ⟨r, 0, none⟩ = some (.slice (some ⟨g, 0, none⟩) L.length cap) := by simp [World.cell?, hh]
         have f3 : w3.frozen? ⟨r, 0, none⟩ = false := by simp [World.frozen?, hh]
         obtain ⟨ba, bc, rfl⟩ := own_sliceR h5
         have H3 := hide3 h5 h6 (mid_take HP.out.2 ki h6 hs (show k ≤ L.length by omega))
         clear h5 h2 hg h6 hh)
      | (at_builtin; refine wpList_append_from _ rfl (.tmp 51) (.tmp 57) 44 44 rfl wr.heap.size 67 id _ 2 40 Tryz.underlying44 hid k0 k6 k7 rfl (.slice none 0 0) 0 [] rfl (World.ownsRow_nil _ _ _ _) _ rfl (k) (oCells (L.take (k))) (H3.out.2.2 cap) (by unfold maxLen; omega) (by omega) H3.out.2.1.size ?_; intro v4 w4 h7 h3 hm; rw [Nat.zero_add, List.nil_append] at h7; have k9 : Below w3.heap.size w3 w4 := ⟨h3.os, h3.tape, h3.output, h3.size, fun j hj => h3.block j hj (by simp [Value.ownBlock])⟩
         obtain ⟨la, lc, rfl⟩ := own_sliceR h7
         have H4 := hide2 h7 k9
         clear h7 h3 hm k9)
      | (at_builtin; refine wpList_append_from _ rfl (.tmp 59) (.tmp 63) 44 44 rfl wr.heap.size 67 id _ 2 40 Tryz.underlying44 hid k0 k6 k7 rfl (.slice la (k) lc) (k) (oCells (L.take (k))) rfl (ownsRow_below H4.out.1 ((Below.refl _ w4).alloc (Nat.le_refl _) _)) _ rfl 1 [.string name, .slice ba n bc] (one_obj w4 name ba n bc) (by unfold maxLen; omega) (by omega) (Nat.le_trans H3.out.2.1.size (Nat.le_trans H4.out.2.size ((Below.refl _ w4).alloc (Nat.le_refl _) _).size)) ?_; intro v5 w5 hp ka hq
         have km := put_third HS.out.2.1 H3.out.1 H3.out.2.1 H4.out.1 H4.out.2 ka
         obtain ⟨h8, kb⟩ := km
         have hr := (h8.block r he).trans HS.out.2.1.top
         have c5 : w5.cell? ⟨r, 0, none⟩ = some (.slice (some ⟨g, 0, none⟩) L.length cap) := by simp [World.cell?, hr]
         have f5 : w5.frozen? ⟨r, 0, none⟩ = false := by simp [World.frozen?, hr]
         obtain ⟨ma, mc, rfl⟩ := own_sliceR hp
         have H5 := hide4 hp h8 kb (mid_drop HP.out.2 ki h8 hs (show k ≤ L.length by omega))
         clear hp ka hq h8 kb hr)
      | (at_builtin; refine wpList_append_from _ rfl (.tmp 65) (.tmp 71) 44 44 rfl wr.heap.size 67 id _ 2 40 Tryz.underlying44 hid k0 k6 k7 rfl (.slice ma (k + 1) mc) (k + 1) _ rfl H5.out.1 _ rfl (L.length - (k)) (oCells (L.drop (k))) (H5.out.2.2.2 _) (by unfold maxLen; omega) (by omega) H5.out.2.1.size ?_; intro v6 w6 hx kc hy
         have kn := put_fourth H5.out.1 H5.out.2.1 H5.out.2.2.1 kc
         obtain ⟨hz, kd⟩ := kn
         have h9 := (hz.block r he).trans HS.out.2.1.top
         have c6 : w6.cell? ⟨r, 0, none⟩ = some (.slice (some ⟨g, 0, none⟩) L.length cap) := by simp [World.cell?, h9]
         have f6 : w6.frozen? ⟨r, 0, none⟩ = false := by simp [World.frozen?, h9]
         obtain ⟨na, nc, rfl⟩ := own_sliceR hx
         have H6 := hide4 hx hz kd h9
         clear hx kc hy hz kd h9))
     all_goals (go_ret; exact put_last HS.out.2.2 HP.out.1 H6.out.1 H6.out.2.1 H6.out.2.2.1 H6.out.2.2.2 he)
  · have q0 : k = L.length := by omega
    have kx : ¬ (k : Int) < (L.length : Int) := by omega
    have kh : placeN (pNames L) name = k := placeN_uniq _ _ _ (by unfold pNames; rw [List.length_map]; omega) (fun j hj h => by
     unfold pNames at hj ⊢
     rw [List.getElem_map]
     exact ha j (by rwa [List.length_map] at hj) h) (fun hi => by unfold pNames at hi; rw [List.length_map] at hi; omega)
    have HK := hide q0
    clear ha q0
    by_cases ky : cap = k
    · subst ky
      clear q4 kv
      have HP := hide2 kh h1
      clear kh h1
      go_wp2_with (first
       | (at_builtin; refine wpList_append_from _ rfl (.tmp 48) (.tmp 49) 31 31 rfl wr.heap.size 5 ib (.int .u8 0) 1 1 Tryz.underlying31 kr ke kf kg rfl (.slice none 0 0) 0 [] rfl (World.ownsRow_nil _ _ _ _) _ rfl n (bts d) HS.out.1 (by unfold maxLen; omega) (by omega) (Nat.le_refl _) ?_; intro vb w3 h5 h2 hg; rw [Nat.zero_add, List.nil_append] at h5; have h6 : Below wr.heap.size wr w3 := ⟨h2.os, h2.tape, h2.output, h2.size, fun j hj => h2.block j hj (by simp [Value.ownBlock])⟩; have hh := (h6.block r he).trans HS.out.2.1.top; have c3 : w3.cell? ⟨r, 0, none⟩ = some (.slice (some ⟨g, 0, none⟩) L.length cap) := by simp [World.cell?, hh]
          have f3 : w3.frozen? ⟨r, 0, none⟩ = false := by simp [World.frozen?, hh]
          obtain ⟨ba, bc, rfl⟩ := own_sliceR h5
          have H3 := hide3 h5 h6 (mid_take HP.out.2 ki h6 hs (show cap ≤ L.length by omega))
          clear h5 h2 hg h6 hh)
       | (at_builtin; refine wpList_append_from _ rfl (.tmp 51) (.tmp 57) 44 44 rfl wr.heap.size 67 id _ 2 40 Tryz.underlying44 hid k0 k6 k7 rfl (.slice none 0 0) 0 [] rfl (World.ownsRow_nil _ _ _ _) _ rfl (cap) (oCells (L.take (cap))) (H3.out.2.2 cap) (by unfold maxLen; omega) (by omega) H3.out.2.1.size ?_; intro v4 w4 h7 h3 hm; rw [Nat.zero_add, List.nil_append] at h7; have k9 : Below w3.heap.size w3 w4 := ⟨h3.os, h3.tape, h3.output, h3.size, fun j hj => h3.block j hj (by simp [Value.ownBlock])⟩
          obtain ⟨la, lc, rfl⟩ := own_sliceR h7
          have H4 := hide2 h7 k9
          clear h7 h3 hm k9)
       | (at_builtin; refine wpList_append_from _ rfl (.tmp 59) (.tmp 63) 44 44 rfl wr.heap.size 67 id _ 2 40 Tryz.underlying44 hid k0 k6 k7 rfl (.slice la (cap) lc) (cap) (oCells (L.take (cap))) rfl (ownsRow_below H4.out.1 ((Below.refl _ w4).alloc (Nat.le_refl _) _)) _ rfl 1 [.string name, .slice ba n bc] (one_obj w4 name ba n bc) (by unfold maxLen; omega) (by omega) (Nat.le_trans H3.out.2.1.size (Nat.le_trans H4.out.2.size ((Below.refl _ w4).alloc (Nat.le_refl _) _).size)) ?_; intro v5 w5 hp ka hq
          have km := put_third HS.out.2.1 H3.out.1 H3.out.2.1 H4.out.1 H4.out.2 ka
          obtain ⟨h8, kb⟩ := km
          have hr := (h8.block r he).trans HS.out.2.1.top
          have c5 : w5.cell? ⟨r, 0, none⟩ = some (.slice (some ⟨g, 0, none⟩) L.length cap) := by simp [World.cell?, hr]
          have f5 : w5.frozen? ⟨r, 0, none⟩ = false := by simp [World.frozen?, hr]
          obtain ⟨ma, mc, rfl⟩ := own_sliceR hp
          have H5 := hide4 hp h8 kb (mid_drop HP.out.2 ki h8 hs (show cap ≤ L.length by omega))
          clear hp ka hq h8 kb hr)
       | (at_builtin; refine wpList_append_from _ rfl (.tmp 65) (.tmp 71) 44 44 rfl wr.heap.size 67 id _ 2 40 Tryz.underlying44 hid k0 k6 k7 rfl (.slice ma (cap + 1) mc) (cap + 1) _ rfl H5.out.1 _ rfl (L.length - (cap)) (oCells (L.drop (cap))) (mid_none HK.out _ _ _) (by unfold maxLen; omega) (by omega) H5.out.2.1.size ?_; intro v6 w6 hx kc hy
          have kn := put_fourth H5.out.1 H5.out.2.1 H5.out.2.2.1 kc
          obtain ⟨hz, kd⟩ := kn
          have h9 := (hz.block r he).trans HS.out.2.1.top
          have c6 : w6.cell? ⟨r, 0, none⟩ = some (.slice (some ⟨g, 0, none⟩) L.length cap) := by simp [World.cell?, h9]
          have f6 : w6.frozen? ⟨r, 0, none⟩ = false := by simp [World.frozen?, h9]
          obtain ⟨na, nc, rfl⟩ := own_sliceR hx
          have H6 := hide4 hx hz kd h9
          clear hx kc hy hz kd h9))
      all_goals (go_ret; exact put_last HS.out.2.2 HP.out.1 H6.out.1 H6.out.2.1 H6.out.2.2.1 H6.out.2.2.2 he)
    · have k4 : k ≤ cap := by omega
      have k5 : (k : Int) ≤ (cap : Int) := by omega
      clear kv
      have HP := hide2 kh h1
      clear kh h1
      go_wp2_with (first
       | (at_builtin; refine wpList_append_from _ rfl (.tmp 48) (.tmp 49) 31 31 rfl wr.heap.size 5 ib (.int .u8 0) 1 1 Tryz.underlying31 kr ke kf kg rfl (.slice none 0 0) 0 [] rfl (World.ownsRow_nil _ _ _ _) _ rfl n (bts d) HS.out.1 (by unfold maxLen; omega) (by omega) (Nat.le_refl _) ?_; intro vb w3 h5 h2 hg; rw [Nat.zero_add, List.nil_append] at h5; have h6 : Below wr.heap.size wr w3 := ⟨h2.os, h2.tape, h2.output, h2.size, fun j hj => h2.block j hj (by simp [Value.ownBlock])⟩; have hh := (h6.block r he).trans HS.out.2.1.top; have c3 : w3.cell? ⟨r, 0, none⟩ = some (.slice (some ⟨g, 0, none⟩) L.length cap) := by simp [World.cell?, hh]
          have f3 : w3.frozen? ⟨r, 0, none⟩ = false := by simp [World.frozen?, hh]
          obtain ⟨ba, bc, rfl⟩ := own_sliceR h5
          have H3 := hide3 h5 h6 (mid_take HP.out.2 ki h6 hs (show k ≤ L.length by omega))
          clear h5 h2 hg h6 hh)
       | (at_builtin; refine wpList_append_from _ rfl (.tmp 51) (.tmp 57) 44 44 rfl wr.heap.size 67 id _ 2 40 Tryz.underlying44 hid k0 k6 k7 rfl (.slice none 0 0) 0 [] rfl (World.ownsRow_nil _ _ _ _) _ rfl (k) (oCells (L.take (k))) (H3.out.2.2 cap) (by unfold maxLen; omega) (by omega) H3.out.2.1.size ?_; intro v4 w4 h7 h3 hm; rw [Nat.zero_add, List.nil_append] at h7; have k9 : Below w3.heap.size w3 w4 := ⟨h3.os, h3.tape, h3.output, h3.size, fun j hj => h3.block j hj (by simp [Value.ownBlock])⟩
          obtain ⟨la, lc, rfl⟩ := own_sliceR h7
          have H4 := hide2 h7 k9
          clear h7 h3 hm k9)
       | (at_builtin; refine wpList_append_from _ rfl (.tmp 59) (.tmp 63) 44 44 rfl wr.heap.size 67 id _ 2 40 Tryz.underlying44 hid k0 k6 k7 rfl (.slice la (k) lc) (k) (oCells (L.take (k))) rfl (ownsRow_below H4.out.1 ((Below.refl _ w4).alloc (Nat.le_refl _) _)) _ rfl 1 [.string name, .slice ba n bc] (one_obj w4 name ba n bc) (by unfold maxLen; omega) (by omega) (Nat.le_trans H3.out.2.1.size (Nat.le_trans H4.out.2.size ((Below.refl _ w4).alloc (Nat.le_refl _) _).size)) ?_; intro v5 w5 hp ka hq
          have km := put_third HS.out.2.1 H3.out.1 H3.out.2.1 H4.out.1 H4.out.2 ka
          obtain ⟨h8, kb⟩ := km
          have hr := (h8.block r he).trans HS.out.2.1.top
          have c5 : w5.cell? ⟨r, 0, none⟩ = some (.slice (some ⟨g, 0, none⟩) L.length cap) := by simp [World.cell?, hr]
          have f5 : w5.frozen? ⟨r, 0, none⟩ = false := by simp [World.frozen?, hr]
          obtain ⟨ma, mc, rfl⟩ := own_sliceR hp
          have H5 := hide4 hp h8 kb (mid_drop HP.out.2 ki h8 hs (show k ≤ L.length by omega))
          clear hp ka hq h8 kb hr)
       | (at_builtin; refine wpList_append_from _ rfl (.tmp 65) (.tmp 71) 44 44 rfl wr.heap.size 67 id _ 2 40 Tryz.underlying44 hid k0 k6 k7 rfl (.slice ma (k + 1) mc) (k + 1) _ rfl H5.out.1 _ rfl (L.length - (k)) (oCells (L.drop (k))) (mid_none HK.out _ _ _) (by unfold maxLen; omega) (by omega) H5.out.2.1.size ?_; intro v6 w6 hx kc hy
          have kn := put_fourth H5.out.1 H5.out.2.1 H5.out.2.2.1 kc
          obtain ⟨hz, kd⟩ := kn
          have h9 := (hz.block r he).trans HS.out.2.1.top
          have c6 : w6.cell? ⟨r, 0, none⟩ = some (.slice (some ⟨g, 0, none⟩) L.length cap) := by simp [World.cell?, h9]
          have f6 : w6.frozen? ⟨r, 0, none⟩ = false := by simp [World.frozen?, h9]
          obtain ⟨na, nc, rfl⟩ := own_sliceR hx
          have H6 := hide4 hx hz kd h9
          clear hx kc hy hz kd h9))
      all_goals (go_ret; exact put_last HS.out.2.2 HP.out.1 H6.out.1 H6.out.2.1 H6.out.2.2.1 H6.out.2.2.2 he)
theorem rput_nil (h : RAt w r base (.slice none 0 0) []) (name : ByteArray) (ao : Option Addr) (c : Nat) (d : List Nat) (hd : Bs w (.slice ao d.length c) d) (kc : d.length ≤ 1500) (h7 : nameOk name) :
 Calls Tryz.prog 28 #[.pointer (some ⟨r, 0, none⟩), .string name, .slice ao d.length c] w (RpOk w r [] name d) := by
 obtain ⟨c0, f0⟩ := h.cell
 have hc := rfind_any h (by simp) name
 obtain ⟨id, hid, h8, h9, ha⟩ := info_parts Tryz.infoRobj
 obtain ⟨ib, kd, he, hg, hh⟩ := info_parts Tryz.infoByteR
 have h0 : ¬ name.size = 0 := by have := h7.1; omega
 have n0 : ¬ (name.size : Int) = 0 := by omega
 have n1 : ¬ (16 : Int) < (name.size : Int) := by have := h7.2; omega
 obtain ⟨n, hn⟩ : ∃ n, d.length = n := ⟨_, rfl⟩
 have hi := bytes_srcR hd
 rw [hn] at hi kc ⊢
 have n2 : ¬ (1500 : Int) < (n : Int) := by omega
 have h3 : r < w.heap.size := block_lt_of_cell c0
 have HS := hide3 hi h hn
 clear h7 h hi hd hn
 go_enter Tryz.func28, Tryz.ntmps28
 go_wp2_with fail
 refine hc.mono ?_
 rintro e w1 ⟨rfl, hf⟩
 rcases hf with ⟨k, hk, _⟩ | ⟨rfl, _⟩
 · exact absurd hk (by simp)
 clear hc
 go_wp2
 go_loopw [8] (fun i wr => i = .int .i64 0 ∧ wr = w1) (fun _ _ => 0)
 case atStart => exact ⟨rfl, rfl⟩
 case round =>
  obtain ⟨rfl, rfl⟩ := hrel
  go_wp2_with (first
   | (at_builtin; refine wpList_append_from _ rfl (.tmp 48) (.tmp 49) 31 31 rfl wr.heap.size 5 ib (.int .u8 0) 1 1 Tryz.underlying31 kd he hg hh rfl (.slice none 0 0) 0 [] rfl (World.ownsRow_nil _ _ _ _) _ rfl n (bts d) HS.out.1 (by unfold maxLen; omega) (by omega) (Nat.le_refl _) ?_; intro vb w3 h4 h1 hm; rw [Nat.zero_add, List.nil_append] at h4; have hp : Below wr.heap.size wr w3 := ⟨h1.os, h1.tape, h1.output, h1.size, fun j hj => h1.block j hj (by simp [Value.ownBlock])⟩; have hq := (hp.block r h3).trans HS.out.2.1.top; have c3 : w3.cell? ⟨r, 0, none⟩ = some (.slice none 0 0) := by simp [World.cell?, hq]
      have f3 : w3.frozen? ⟨r, 0, none⟩ = false := by simp [World.frozen?, hq]
      obtain ⟨ba, bc, rfl⟩ := own_sliceR h4
      have H3 := hide2 h4 hp
      clear h4 h1 hm hp hq)
   | (at_builtin; refine wpList_append_from _ rfl (.tmp 51) (.tmp 57) 44 44 rfl wr.heap.size 67 id _ 2 40 Tryz.underlying44 hid h8 h9 ha rfl (.slice none 0 0) 0 [] rfl (World.ownsRow_nil _ _ _ _) _ rfl 0 [] (Src.ofNil _ Tryz.underlying44 0) (by unfold maxLen; omega) (by omega) H3.out.2.size ?_; intro v4 w4 h5 h2 hr; rw [Nat.zero_add, List.nil_append] at h5; have k7 : Below w3.heap.size w3 w4 := ⟨h2.os, h2.tape, h2.output, h2.size, fun j hj => h2.block j hj (by simp [Value.ownBlock])⟩
      obtain ⟨la, lc, rfl⟩ := own_sliceR h5
      have H4 := hide2 h5 k7
      clear h5 h2 hr k7)
   | (at_builtin; refine wpList_append_from _ rfl (.tmp 59) (.tmp 63) 44 44 rfl wr.heap.size 67 id _ 2 40 Tryz.underlying44 hid h8 h9 ha rfl (.slice la 0 lc) 0 [] rfl (ownsRow_below H4.out.1 ((Below.refl _ w4).alloc (Nat.le_refl _) _)) _ rfl 1 [.string name, .slice ba n bc] (one_obj w4 name ba n bc) (by unfold maxLen; omega) (by omega) (Nat.le_trans H3.out.2.size (Nat.le_trans H4.out.2.size ((Below.refl _ w4).alloc (Nat.le_refl _) _).size)) ?_; intro v5 w5 hs k8 hx
      have ke := put_third HS.out.2.1 H3.out.1 H3.out.2 H4.out.1 H4.out.2 k8
      obtain ⟨hy, k9⟩ := ke
      have hz := (hy.block r h3).trans HS.out.2.1.top
      have c5 : w5.cell? ⟨r, 0, none⟩ = some (.slice none 0 0) := by simp [World.cell?, hz]
      have f5 : w5.frozen? ⟨r, 0, none⟩ = false := by simp [World.frozen?, hz]
      obtain ⟨ma, mc, rfl⟩ := own_sliceR hs
      have H5 := hide3 hs hy k9
      clear hs k8 hx hy k9 hz)
   | (at_builtin; refine wpList_append_from _ rfl (.tmp 65) (.tmp 71) 44 44 rfl wr.heap.size 67 id _ 2 40 Tryz.underlying44 hid h8 h9 ha rfl (.slice ma 1 mc) 1 _ rfl H5.out.1 _ rfl 0 [] (Src.ofNil _ Tryz.underlying44 0) (by unfold maxLen; omega) (by omega) H5.out.2.1.size ?_; intro v6 w6 k0 ka k5
      have kf := put_fourth H5.out.1 H5.out.2.1 H5.out.2.2 ka
      obtain ⟨k6, kb⟩ := kf
      have h6 := (k6.block r h3).trans HS.out.2.1.top
      have c6 : w6.cell? ⟨r, 0, none⟩ = some (.slice none 0 0) := by simp [World.cell?, h6]
      have f6 : w6.frozen? ⟨r, 0, none⟩ = false := by simp [World.frozen?, h6]
      obtain ⟨na, nc, rfl⟩ := own_sliceR k0
      have H6 := hide4 k0 k6 kb h6
      clear k0 ka k5 k6 kb h6))
  all_goals (go_ret; exact put_last (a := 0) (L := []) HS.out.2.2 rfl H6.out.1 H6.out.2.1 H6.out.2.2.1 H6.out.2.2.2 h3)
theorem rput_ok (h : RAt w r base v L) (hl : L.length ≤ 100000) (hs : ∀ o ∈ L, isSl o.2) (name : ByteArray) (ao : Option Addr) (c : Nat) (d : List Nat) (hd : Bs w (.slice ao d.length c) d) (h2 : d.length ≤ 1500) (h3 : nameOk name) (h4 : isNone L name) :
 Calls Tryz.prog 28 #[.pointer (some ⟨r, 0, none⟩), .string name, .slice ao d.length c] w (RpOk w r L name d) := by
 rcases h.shape with ⟨rfl, rfl⟩ | ⟨g, cap, rfl, h6, h1, h0⟩
 · exact rput_nil h name ao c d hd h2 h3
 · have h5 : g < w.heap.size := by
    rcases h.own.2 with ⟨q, _⟩ | ⟨g', cap', cur, e1, e2, e3, _⟩
    · cases q
    · have e' : g = g' := by
       simp only [Value.slice.injEq, Option.some.injEq, Addr.mk.injEq] at e1
       exact e1.1.1
      rw [e']; exact (Array.getElem?_eq_some_iff.1 e3).1
   exact rput_row h hl hs name ao c d hd h2 h3 h4 h0 h5 h1
theorem powered2_ok (k : FuncId) (first cap : Array Value) (h3 : ∀ (args : Array Value) (w : World), (callFunc k args).run Tryz.prog w = .ok (.enter k args) w) (w : World) (R : World → Value → World → Prop)
 (h2 : ∀ w1, Below w.heap.size w w1 → w1.heap.size = w.heap.size + 1 → w1.heap[w.heap.size]? = some (.cells #[.nilIface] 49 (0, 0)) → Calls Tryz.prog k (first ++ cap) w1 fun e w2 => ∃ v, e = .returned v ∧ isErr v ∧ R w1 v w2 ∧ w2.heap[w.heap.size]? = w1.heap[w.heap.size]?) :
 Calls Tryz.prog 57 #[.func (.func k) first cap] w fun e w' => ∃ v w1 w2, e = .returned v ∧ isErr v ∧ Below w.heap.size w w1 ∧ w1.heap.size = w.heap.size + 1 ∧ R w1 v w2 ∧ w' = w2.setCell ⟨w.heap.size, 0, none⟩ v := by
 have h4 : ∀ (fn : Fn) (first cap : Array Value) (w : World), (Instr.makeFunc fn first cap).run Tryz.prog w = .ok (.func fn first cap) w := fun _ _ _ _ => rfl
 have hc := h2 (w.alloc (.cells #[.nilIface] 49)) ((Below.refl _ w).alloc (Nat.le_refl _) _) (by simp) (heap_alloc_last w _)
 have h0 : (w.alloc (.cells #[.nilIface] 49)).heap[w.heap.size]? = some (.cells #[.nilIface] 49 (0, 0)) := blk_alloc_new _ _
 go_enter_defers Tryz.func57, Tryz.ntmps57
 go_wp2_with fail
 refine hc.mono ?_
 clear hc
 rintro e w2 ⟨v, rfl, hv, hR, h1⟩
 have ht : w2.heap[w.heap.size]? = some (.cells #[.nilIface] 49 (0, 0)) := h1.trans h0
 have c2 : w2.cell? ⟨w.heap.size, 0, none⟩ = some .nilIface := by simp [World.cell?, ht]
 have f2 : w2.frozen? ⟨w.heap.size, 0, none⟩ = false := by simp [World.frozen?, ht]
 have c3 : (w2.setCell ⟨w.heap.size, 0, none⟩ v).cell? ⟨w.heap.size, 0, none⟩ = some v := by simp [World.cell?, World.setCell, Array.getElem?_modify, ht]
 have H := hide2 hR hv
 clear hR h1 ht h0 h2
 rcases hv with rfl | ⟨t, u, rfl⟩
 · go_wp2
   refine leaves_cons (f := 90) (args := #[.pointer (some ⟨w.heap.size, 0, none⟩)]) (by simp) (by simp [go_sem]) ?_
   refine (catch_idle ⟨w.heap.size, 0, none⟩ _).mono ?_
   rintro e u' w'' ⟨rfl, rfl, rfl⟩
   refine ⟨.nilIface, by simp [results, Tryz.results57, go_sem, c3], _, _, w2, rfl, .inl rfl, (Below.refl _ w).alloc (Nat.le_refl _) (.cells #[.nilIface] 49), by simp, H.out.1, rfl⟩
 · go_wp2
   refine leaves_cons (f := 90) (args := #[.pointer (some ⟨w.heap.size, 0, none⟩)]) (by simp) (by simp [go_sem]) ?_
   refine (catch_idle ⟨w.heap.size, 0, none⟩ _).mono ?_
   rintro e u' w'' ⟨rfl, rfl, rfl⟩
   refine ⟨.iface t u, by simp [results, Tryz.results57, go_sem, c3], _, _, w2, rfl, .inr ⟨t, u, rfl⟩, (Below.refl _ w).alloc (Nat.le_refl _) (.cells #[.nilIface] 49), by simp, H.out.1, rfl⟩
theorem arcPowered2_ok (k : FuncId) (first cap : Array Value) (hi : ∀ (args : Array Value) (w : World), (callFunc k args).run Tryz.prog w = .ok (.enter k args) w) (w : World) (a : Nat) (cs : Array Value) (ha : w.heap[a]? = some (.cells cs 112 (0, 0))) (h9 : cs[9]? = some (.bool false)) (R : World → Value → World → Prop)
 (h8 : ∀ w1, Below w.heap.size w w1 → w1.heap.size = w.heap.size + 1 → w1.heap[w.heap.size]? = some (.cells #[.nilIface] 49 (0, 0)) → Calls Tryz.prog k (first ++ cap) w1 fun e w2 => ∃ v, e = .returned v ∧ noCut v ∧ R w1 v w2 ∧ w2.heap[w.heap.size]? = w1.heap[w.heap.size]? ∧ ∃ cs', w2.heap[a]? = some (.cells cs' 112 (0, 0)) ∧ cs'[9]? = some (.bool false)) :
 Calls Tryz.prog 38 #[.pointer (some ⟨a, 0, none⟩), .func (.func k) first cap] w fun e w' => ∃ v w1 w2, e = .returned v ∧ noCut v ∧ Below w.heap.size w w1 ∧ w1.heap.size = w.heap.size + 1 ∧ R w1 v w2 ∧ w' = (w2.setCell ⟨w.heap.size, 0, none⟩ v).setCell ⟨a, 9, none⟩ (.bool false) := by
 have hj : a < w.heap.size := (Array.getElem?_eq_some_iff.1 ha).1
 have c9 : w.cell? ⟨a, 9, none⟩ = some (.bool false) := by simp [World.cell?, ha, h9]
 have hP := powered2_ok k first cap hi w (fun w1 v w2 => noCut v ∧ R w1 v w2 ∧ ∃ cs', w2.heap[a]? = some (.cells cs' 112 (0, 0)) ∧ cs'[9]? = some (.bool false)) (fun w1 h1 h2 h3 => (h8 w1 h1 h2 h3).mono (by
  rintro e w2 ⟨v, rfl, h3, h4, h5, h6⟩
  exact ⟨v, rfl, h3.isErr, ⟨h3, h4, h6⟩, h5⟩))
 go_enter Tryz.func38, Tryz.ntmps38
 go_wp2_with fail
 refine hP.mono ?_
 rintro e w3 ⟨v, w1, w2, rfl, _, hc, he, ⟨hf, hR, cs', hg, hh⟩, rfl⟩
 have h0 : (w2.setCell ⟨w.heap.size, 0, none⟩ v).heap[a]? = some (.cells cs' 112 (0, 0)) := (blk_setCell_other _ _ _ _ (by show a ≠ w.heap.size; omega)).trans hg
 obtain ⟨w3, h7⟩ : ∃ w3, w2.setCell ⟨w.heap.size, 0, none⟩ v = w3 := ⟨_, rfl⟩
 rw [h7] at h0 ⊢
 have d9 : w3.cell? ⟨a, 9, none⟩ = some (.bool false) := by simp [World.cell?, h0, hh]
 have f9 : w3.frozen? ⟨a, 9, none⟩ = false := by simp [World.frozen?, h0]
 have H := hide5 hc he hR hf h7
 clear hc he hR hP h8 h0 hh hg h7
 rcases hf with rfl | ⟨n, hn, rfl⟩
 · go_wp2_with fail
   refine (is_nil 13 w3).mono ?_
   rintro e w' ⟨rfl, rfl⟩
   go_wp2
   go_ret
   obtain ⟨q1, q2, q3, q4, q5⟩ := H.out
   exact ⟨.nilIface, w1, w2, rfl, q4, q1, q2, q3, by rw [q5]⟩
 · go_wp2_with fail
   refine (is_errno n hn w3).mono ?_
   rintro e w' ⟨rfl, rfl⟩
   go_wp2
   go_ret
   obtain ⟨q1, q2, q3, q4, q5⟩ := H.out
   exact ⟨.iface 52 (.int .i64 n), w1, w2, rfl, q4, q1, q2, q3, by rw [q5]⟩
section
open Gf
def NoNum (w : World) (b : Nat) : Prop := ∀ off u, w.cell? ⟨b, off, none⟩ = some u → (∀ x, u ≠ .int .i64 x) ∧ ∀ s, u ≠ .string s
theorem noNum_err (hb : w.heap[b]? = some (.cells #[.nilIface] 49 (0, 0))) : NoNum w b := fun off u h => by
 cases off with
 | zero => simp [World.cell?, hb] at h; subst h; exact ⟨fun _ => nofun, fun _ => nofun⟩
 | succ n => simp [World.cell?, hb] at h
theorem Ints.aside {l : List Nat} (h : Ints K w v l) (hb : NoNum w b) (hz : w.heap.size ≤ w'.heap.size) (hk : ∀ k, k ≠ b → k < w.heap.size → w'.heap[k]? = w.heap[k]?) : Ints K w' v l := by
 obtain ⟨ao, c, h1, h2, h3⟩ := h
 refine ⟨ao, c, h1, h2, fun hl => ?_⟩
 obtain ⟨b', off, q1, q2, q3, q4⟩ := h3 hl
 have h0 : b' ≠ b := fun e => by
  subst e
  exact (hb _ _ (q4 0 (List.length_pos_iff.2 hl))).1 _ rfl
 exact ⟨b', off, q1, q2, Nat.lt_of_lt_of_le q3 hz, fun i hi => (World.cell?_of_block (hk b' h0 q3)).trans (q4 i hi)⟩
theorem Cat.aside {os : List Ob} (h : Cat K w v os) (hb : NoNum w b) (hz : w.heap.size ≤ w'.heap.size) (hk : ∀ k, k ≠ b → k < w.heap.size → w'.heap[k]? = w.heap[k]?) : Cat K w' v os := by
 obtain ⟨ao, c, h1, h2, h3⟩ := h
 refine ⟨ao, c, h1, h2, fun hl => ?_⟩
 obtain ⟨b', off, q1, q2, q3, q4⟩ := h3 hl
 have h4 : b' ≠ b := fun e => by
  subst e
  obtain ⟨sv, r1, _⟩ := q4 0 (List.length_pos_iff.2 hl)
  exact (hb _ _ r1).2 _ rfl
 refine ⟨b', off, q1, q2, Nat.lt_of_lt_of_le q3 hz, fun i hi => ?_⟩
 obtain ⟨sv, r1, r2, r3, r4⟩ := q4 i hi
 have h0 := hk b' h4 q3
 exact ⟨sv, (World.cell?_of_block h0).trans r1, (World.cell?_of_block h0).trans r2, (World.cell?_of_block h0).trans r3, r4.aside hb hz hk⟩
theorem Live.aside {v L : Nat} {xs : Obs} {B : Nat} (h : Live w ar v p ps D L G t pg ob P xs A F) (hb : NoNum w b) (hz : w.heap.size ≤ w'.heap.size) (hk : ∀ k, k ≠ b → k < w.heap.size → w'.heap[k]? = w.heap[k]?) (hB : B ≤ b) (hF : ∀ k, F.has p A.n k → k < B) (hv : v < B) (ha : ar < B) (hK : 3 ≤ B) : Live w' ar v p ps D L G t pg ob P xs A F := by
 have k1 : 2 < 3 := by decide
 have k2 : 1 < 3 := by decide
 exact ⟨h.arc.keep (hk _ (by omega) h.arc.lt), ⟨h.vol.vol.keep (hk _ (by omega) h.vol.vol.lt), h.vol.arr.keep fun j hj => hk j (by have := hF j hj; omega) (h.vol.arr.has_lt hj), h.vol.laid.keep (hk _ (by omega) h.vol.laid.lt), h.vol.tab.keep (hk _ (by omega) h.vol.tab.lt), Nat.le_trans h.vol.room hz⟩, h.free, h.nar, h.vne, h.arK, h.fit, h.par, h.disk, h.pgs.aside hb hz hk, h.cat.aside hb hz hk, h.nb, h.turn⟩
def Aside (b : Nat) (w w' : World) : Prop := w.heap[b]? = some (.cells #[.nilIface] 49 (0, 0)) ∧ w'.heap.size = w.heap.size ∧ ∀ j, j ≠ b → w'.heap[j]? = w.heap[j]?
theorem arcDoT {v L : Nat} {xs : Obs} (h : Live w ar v p ps D L G t pg ob P xs A F) (k : FuncId) (first cap : Array Value) (hg : ∀ (args : Array Value) (w : World), (callFunc k args).run Tryz.prog w = .ok (.enter k args) w) (Q : Value → Nat → Obs → Arr → World → Prop) (T : Nat → Prop) (hT : ∀ j, T j → j ≠ w.heap.size)
 (hh : ∀ x t' xs' B w2 w', Aside w.heap.size w2 w' → Q x t' xs' B w2 → Q x t' xs' B w')
 (hi : ∀ w1, Below w.heap.size w w1 → w1.heap.size = w.heap.size + 1 → Calls Tryz.prog k (first ++ cap) w1 fun e w2 => ∃ x t' pg' ob' P' xs' B, e = .returned x ∧ noCut x ∧ Live w2 ar v p ps D L G t' pg' ob' P' xs' B F ∧ B.n = A.n ∧ B.nb = A.nb ∧ Outside (fun j => j = ar ∨ F.has p A.n j ∨ T j) w1 w2 ∧ Q x t' xs' B w2) :
 Calls Tryz.prog 38 #[.pointer (some ⟨ar, 0, none⟩), .func (.func k) first cap] w fun e w' => ∃ x t' pg' ob' P' xs' B, e = .returned x ∧ noCut x ∧ Live w' ar v p ps D L G t' pg' ob' P' xs' B F ∧ B.n = A.n ∧ B.nb = A.nb ∧ Outside (fun j => j = ar ∨ F.has p A.n j ∨ T j) w w' ∧ Q x t' xs' B w' := by
 have h5 := h.arc.lt
 have hk := h.vol.vol.lt
 have ha : ∀ j, F.has p A.n j → j < w.heap.size := fun j hj => h.vol.arr.has_lt hj
 have h0 := h.vol.room
 have hm := arcPowered2_ok k first cap hg w ar _ h.arc rfl (fun w1 x w2 => Below w.heap.size w w1 ∧ w1.heap.size = w.heap.size + 1 ∧ w2.heap[w.heap.size]? = some (.cells #[.nilIface] 49 (0, 0)) ∧ ∃ t' pg' ob' P' xs' B, Live w2 ar v p ps D L G t' pg' ob' P' xs' B F ∧ B.n = A.n ∧ B.nb = A.nb ∧ Outside (fun j => j = ar ∨ F.has p A.n j ∨ T j) w1 w2 ∧ Q x t' xs' B w2)
  (fun w1 h4 h6 hp => (hi w1 h4 h6).mono (by
   rintro e w2 ⟨x, t', pg', ob', P', xs', B, rfl, hx, hl, hn, h7, hO, hQ⟩
   have hc := hO
   have he : w2.heap[w.heap.size]? = w1.heap[w.heap.size]? := hc.block _ (by omega) (fun e => by
    rcases e with e | e | e
    · omega
    · have := ha _ e; omega
    · exact hT _ e rfl)
   exact ⟨x, rfl, hx, ⟨h4, h6, he.trans hp, t', pg', ob', P', xs', B, hl, hn, h7, hc, hQ⟩, he, _, hl.arc, rfl⟩))
 refine hm.mono ?_
 rintro e w' ⟨x, w1, w2, rfl, hx, _, _, ⟨h4, h6, hf, t', pg', ob', P', xs', B, hl, hn, h7, hO, hQ⟩, rfl⟩
 have h8 : (w2.setCell ⟨w.heap.size, 0, none⟩ x).heap[ar]? = some (.cells (arcA v D L G t' (P'.getD 0 0) (packL xs'.os).length pg' ob' false) 112 (0, 0)) := (blk_setCell_other _ _ _ _ (by show ar ≠ w.heap.size; omega)).trans hl.arc
 have h9 := heap_setCell_at (j := 9) h8 (.bool false)
 have h3 : Aside w.heap.size w2 ((w2.setCell ⟨w.heap.size, 0, none⟩ x).setCell ⟨ar, 9, none⟩ (.bool false)) := by
  refine ⟨hf, by simp [World.setCell], fun j hj => ?_⟩
  by_cases e : j = ar
  · subst e
    exact h9.trans hl.arc.symm
  · exact (blk_setCell_other _ _ _ _ e).trans (blk_setCell_other _ _ _ _ hj)
 have hq := hl.aside (w' := (w2.setCell ⟨w.heap.size, 0, none⟩ x).setCell ⟨ar, 9, none⟩ (.bool false)) (b := w.heap.size) (B := w.heap.size) (noNum_err hf) (by rw [h3.2.1]; exact Nat.le_refl _) (fun j hj _ => h3.2.2 j hj) (Nat.le_refl _) (by rw [hn]; exact ha) hk h5 h0
 refine ⟨x, t', pg', ob', P', xs', B, rfl, hx, hq, hn, h7, ?_, hh _ _ _ _ _ _ h3 hQ⟩
 have hr : Outside (fun j => j = ar ∨ F.has p A.n j ∨ T j) w w2 := (Outside.of_all h4 _).trans hO
 exact hr.later (T := fun j => w.heap.size ≤ j) ⟨rfl, rfl, rfl, by rw [h3.2.1]; exact Nat.le_refl _, fun j _ hj => h3.2.2 j (by omega)⟩ (fun j h1 h2 => by omega)
theorem arcDo {v L : Nat} {xs : Obs} (h : Live w ar v p ps D L G t pg ob P xs A F) (k : FuncId) (first cap : Array Value) (h0 : ∀ (args : Array Value) (w : World), (callFunc k args).run Tryz.prog w = .ok (.enter k args) w) (Q : Value → Nat → Obs → Arr → World → Prop)
 (h8 : ∀ x t' xs' B w2 w', Aside w.heap.size w2 w' → Q x t' xs' B w2 → Q x t' xs' B w')
 (h9 : ∀ w1, Below w.heap.size w w1 → w1.heap.size = w.heap.size + 1 → Calls Tryz.prog k (first ++ cap) w1 fun e w2 => ∃ x t' pg' ob' P' xs' B, e = .returned x ∧ noCut x ∧ Live w2 ar v p ps D L G t' pg' ob' P' xs' B F ∧ B.n = A.n ∧ B.nb = A.nb ∧ Outside (fun j => j = ar ∨ F.has p A.n j) w1 w2 ∧ Q x t' xs' B w2) :
 Calls Tryz.prog 38 #[.pointer (some ⟨ar, 0, none⟩), .func (.func k) first cap] w fun e w' => ∃ x t' pg' ob' P' xs' B, e = .returned x ∧ noCut x ∧ Live w' ar v p ps D L G t' pg' ob' P' xs' B F ∧ B.n = A.n ∧ B.nb = A.nb ∧ Outside (fun j => j = ar ∨ F.has p A.n j) w w' ∧ Q x t' xs' B w' := by
 refine (arcDoT h k first cap h0 Q (fun _ => False) (fun _ e => e.elim) h8 fun w1 ha hc => (h9 w1 ha hc).mono ?_).mono ?_
 · rintro e w2 ⟨x, t', pg', ob', P', xs', B, h1, h2, h3, h4, h5, h6, h7⟩
   exact ⟨x, t', pg', ob', P', xs', B, h1, h2, h3, h4, h5, h6.mono fun j _ hj => hj.elim .inl (fun q => .inr (.inl q)), h7⟩
 · rintro e w2 ⟨x, t', pg', ob', P', xs', B, h1, h2, h3, h4, h5, h6, h7⟩
   exact ⟨x, t', pg', ob', P', xs', B, h1, h2, h3, h4, h5, h6.mono fun j _ hj => hj.elim .inl (fun q => q.elim .inr (fun q => q.elim)), h7⟩
end
end Go.Proofs.YtpaemkanfnddoaaGreatDoor
