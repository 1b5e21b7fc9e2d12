import Derived.Test.YtpaemkanfnddoaaGreatDoorM39
set_option maxRecDepth 100000
set_option maxHeartbeats 8000000
namespace Go.Proofs.YtpaemkanfnddoaaGreatDoor
open Go.RowKit Go.Deep Gf
variable {A B : Arr} {F : Foot} {P l : List Nat} {ar v p ps D L G t n m b k base g cap a c1 : Nat} {K : Nat → Prop} {xs : Obs} {pg ob : Value} {w : World}
def errV (n : Int) : Value := .iface 52 (.int .i64 n)
def ErPost (w : World) (n : Int) (e : Ending) (w' : World) : Prop := e = .returned (errV n) ∧ Below w.heap.size w w'
theorem refuse_name (h : Live w ar v p ps D L G t pg ob P xs A F) (x : ByteArray) (vd : Value) (hx : namedB x = false) :
 Calls Tryz.prog 56 #[.pointer (some ⟨ar, 0, none⟩), .string x, vd] w (ErPost w 6) := by
 obtain ⟨_, _, _, _, c8⟩ := h.arc.cells
 have h0 := h.find x
 obtain ⟨k, hk⟩ : ∃ k, placeN xs.names x = k := ⟨_, rfl⟩
 obtain ⟨i, hi⟩ : ∃ i, isIn xs.os x = i := ⟨_, rfl⟩
 rw [hk, hi] at h0
 clear hk hi h
 go_enter Tryz.func56, Tryz.ntmps56
 go_wp2_with fail
 refine h0.mono ?_
 rintro e w1 ⟨rfl, hb⟩
 have H := hide hb
 clear hb h0 c8
 go_wp2_with fail
 refine (named_any x w1).mono ?_
 rintro e w2 ⟨rfl, rfl⟩
 rw [hx]
 dsimp only
 go_wp2
 go_ret
 exact ⟨rfl, H.out⟩
theorem refuse_size (h : Live w ar v p ps D L G t pg ob P xs A F) (x : ByteArray) (ao : Option Addr) (n c : Nat) (hx : namedB x = true) (hn : 1500 < n) :
 Calls Tryz.prog 56 #[.pointer (some ⟨ar, 0, none⟩), .string x, .slice ao n c] w (ErPost w 7) := by
 obtain ⟨_, _, _, _, c8⟩ := h.arc.cells
 have h0 := h.find x
 obtain ⟨k, hk⟩ : ∃ k, placeN xs.names x = k := ⟨_, rfl⟩
 obtain ⟨i, hi⟩ : ∃ i, isIn xs.os x = i := ⟨_, rfl⟩
 rw [hk, hi] at h0
 have h1 : (1500 : Int) < (n : Int) := by omega
 clear hk hi h
 go_enter Tryz.func56, Tryz.ntmps56
 go_wp2_with fail
 refine h0.mono ?_
 rintro e w1 ⟨rfl, hb⟩
 have H := hide hb
 clear hb h0 c8
 go_wp2_with fail
 refine (named_any x w1).mono ?_
 rintro e w2 ⟨rfl, rfl⟩
 rw [hx]
 dsimp only
 go_wp2
 go_ret
 exact ⟨rfl, H.out⟩
theorem refuse_exists (h : Live w ar v p ps D L G t pg ob P xs A F) (x : ByteArray) (ao : Option Addr) (n c : Nat) (hx : namedB x = true) (hn : n ≤ 1500) (hm : x ∈ xs.names) :
 Calls Tryz.prog 56 #[.pointer (some ⟨ar, 0, none⟩), .string x, .slice ao n c] w (ErPost w 8) := by
 obtain ⟨_, _, _, _, c8⟩ := h.arc.cells
 have h0 := h.find x
 obtain ⟨k, hk⟩ : ∃ k, placeN xs.names x = k := ⟨_, rfl⟩
 rw [hk, h.there hm] at h0
 have h1 : ¬ (1500 : Int) < (n : Int) := by omega
 clear hk h hm
 go_enter Tryz.func56, Tryz.ntmps56
 go_wp2_with fail
 refine h0.mono ?_
 rintro e w1 ⟨rfl, hb⟩
 have H := hide hb
 clear hb h0 c8
 go_wp2_with fail
 refine (named_any x w1).mono ?_
 rintro e w2 ⟨rfl, rfl⟩
 rw [hx]
 dsimp only
 go_wp2
 go_ret
 exact ⟨rfl, H.out⟩
def stOf (D n : Nat) : Nat := max 1 ((n + D * 44 - 1) / (D * 44))
def pgOf (D m n : Nat) : Nat := Go.Proofs.YtpaemkanfnddoaaGreatDoor.pgs D (m + (19 + 4 * stOf D n))
theorem stOf_le (hD : 1 ≤ D) (hn : n ≤ 1500) : stOf D n ≤ 36 := by
 unfold stOf
 have h1 : (n + D * 44 - 1) / (D * 44) ≤ n / (D * 44) + 1 := by
  have := st_le (D * 44) n (by omega)
  exact Nat.le_trans (Nat.le_max_right _ _) this
 have h2 : n / (D * 44) ≤ 1500 / 44 := by
  have a := Nat.div_le_div_right (c := D * 44) hn
  have b : 1500 / (D * 44) ≤ 1500 / 44 := Nat.div_le_div_left (by omega) (by decide)
  omega
 omega
theorem pgs_le (hD : 1 ≤ D) (hm : m ≤ 2000000) : Go.Proofs.YtpaemkanfnddoaaGreatDoor.pgs D m ≤ 1000000 := by
 unfold Go.Proofs.YtpaemkanfnddoaaGreatDoor.pgs
 have : (m + (D * 44 - 4) - 1) / (D * 44 - 4) ≤ (m + (D * 44 - 4) - 1) / 40 := Nat.div_le_div_left (by omega) (by decide)
 have h2 : (m + (D * 44 - 4) - 1) / (D * 44 - 4) ≤ m / 40 + 1 := by
  refine Nat.le_trans ((Nat.div_le_iff_le_mul_add_pred (by omega)).2 ?_) (Nat.le_refl _)
  have h3 : 40 * (m / 40 + 1) ≤ (D * 44 - 4) * (m / 40 + 1) := Nat.mul_le_mul_right _ (by omega)
  have h4 := Nat.div_add_mod m 40
  have h5 := Nat.mod_lt m (show 40 > 0 by decide)
  omega
 omega
theorem refuse_full (h : Live w ar v p ps D L G t pg ob P xs A F) (x : ByteArray) (ao : Option Addr) (n c : Nat) (hx : namedB x = true) (hn : n ≤ 1500) (hm : x ∉ xs.names) (h0 : A.nb < (allSt xs.os).length + stOf D n + 2 * pgOf D (packL xs.os).length n + 2) :
 Calls Tryz.prog 56 #[.pointer (some ⟨ar, 0, none⟩), .string x, .slice ao n c] w (ErPost w 10) := by
 obtain ⟨_, _, _, _, c8⟩ := h.arc.cells
 have h8 := h.find x
 obtain ⟨k, hk⟩ : ∃ k, placeN xs.names x = k := ⟨_, rfl⟩
 rw [hk, h.notThere hm] at h8
 have k7 : ¬ (1500 : Int) < (n : Int) := by omega
 have h9 := h.par.d1
 have hs := h.par.d
 have hy := h.packL_le
 have hz := stOf_le h9 hn
 have hg : pgOf D (packL xs.os).length n ≤ 1000000 := pgs_le h9 (by omega)
 have k0 := h.few.2.1
 obtain ⟨len, h1⟩ : ∃ len, (packL xs.os).length = len := ⟨_, rfl⟩
 obtain ⟨cnt, h2⟩ : ∃ cnt, stOf D n = cnt := ⟨_, rfl⟩
 obtain ⟨pgn, h3⟩ : ∃ pgn, pgOf D len n = pgn := ⟨_, rfl⟩
 rw [h1] at hg h0 hy
 rw [h3] at hg h0
 rw [h2] at hz h0
 have HE := hide5 h h2 h3 h1 h0
 clear hk h hm h1 h2 h3 h0
 go_enter Tryz.func56, Tryz.ntmps56
 go_wp2_with fail
 refine h8.mono ?_
 rintro e w1 ⟨rfl, hb⟩
 have H := hide hb
 clear hb h8 c8
 go_wp2_with fail
 refine (named_any x w1).mono ?_
 rintro e w2 ⟨rfl, rfl⟩
 rw [hx]
 dsimp only
 have h6 := HE.out.1.below H.out
 obtain ⟨d0, _, d6, _, _⟩ := h6.arc.cells
 rw [HE.out.2.2.2.1] at d6
 have ha := stripeSize_any h6.vol.vol (by omega)
 obtain ⟨q, hq⟩ : ∃ q, D * 44 = q := ⟨_, rfl⟩
 rw [hq] at ha
 have hc := stripesOf_any n q (by omega) ⟨by omega, by omega⟩ w2
 have hh : max 1 ((n + q - 1) / q) = cnt := by rw [← HE.out.2.1, ← hq]; rfl
 rw [hh] at hc
 have he := fun W => packed_any cnt (by omega) W
 obtain ⟨pk, h4⟩ : ∃ pk, 19 + 4 * cnt = pk := ⟨_, rfl⟩
 have hi : ∀ W, W.heap = w2.heap → Calls Tryz.prog 69 #[.pointer (some ⟨ar, 0, none⟩), .int .i64 ((len : Int) + (pk : Int))] W fun e w' => e = .returned (.int .i64 (pgn : Nat)) ∧ w' = W := fun W hW => by
  have := pagesOf_any (w := W) (h6.arc.keep (by rw [hW])) (h6.vol.vol.keep (by rw [hW])) h9 (by omega) (len + (19 + 4 * cnt)) (by omega)
  have e : Go.Proofs.YtpaemkanfnddoaaGreatDoor.pgs D (len + (19 + 4 * cnt)) = pgn := by rw [← HE.out.2.2.1, ← HE.out.2.1]; rfl
  rw [e, h4, Int.natCast_add] at this
  exact this
 rw [h4] at he
 have k5 : pk ≤ 200 := by omega
 have k8 : IntKind.i64.wrap ((len : Int) + (pk : Int)) = (len : Int) + (pk : Int) := by rw [IntKind.wrap_i64]; omega
 have HP := hide3 h6 he hi
 clear h6 he hi hh hq h4
 go_wp2_with fail
 refine ha.mono ?_
 rintro e w3 ⟨rfl, rfl⟩
 clear ha
 go_wp2_with fail
 refine hc.mono ?_
 rintro e w4 ⟨rfl, rfl⟩
 clear hc
 go_wp2_with fail
 go_quiet (first | (go_at_call 85; refine Calls.quiet_of_same (HP.out.2.1 _)) | (go_at_call 69; refine Calls.quiet_of_same (HP.out.2.2 _ rfl)))
 have hf : Below w4.heap.size w4 (w4.drewN nq) := ⟨rfl, rfl, rfl, Nat.le_refl _, fun _ _ => rfl⟩
 have h5 := HP.out.1.below hf
 have h7 := roomFor_any h5.arc h5.vol.vol h5.vol.arr h5.fit h5.n0 xs.os h5.cat.any (by omega) cnt pgn (by omega) (by omega)
 have hj : decide ((allSt xs.os).length + cnt + 2 * pgn + 2 ≤ A.nb) = false := decide_eq_false (by have := HE.out.2.2.2.2; omega)
 rw [hj] at h7
 have HB := hide (H.out.trans (hf.mono H.out.size))
 clear hf h5 hj d0 d6
 obtain ⟨w5, hp⟩ : ∃ w5, w4.drewN nq = w5 := ⟨_, rfl⟩
 rw [hp] at h7 HB ⊢
 clear hp
 go_wp2_with fail
 refine h7.mono ?_
 rintro e w6 ⟨rfl, hr⟩
 have k6 := hide (HB.out.trans (hr.mono HB.out.size))
 clear hr h7
 dsimp only
 go_wp2
 go_ret
 exact ⟨rfl, k6.out⟩
theorem objTo_fit (h : A.fit) {D L G : Nat} (hD : D ≤ 12) (hG : G ≤ 4) (hn : A.n = D + L + G) (S d : List Nat) : ∀ k, (A.objTo D L G S d k).fit
 | 0 => h
 | k + 1 => (objTo_fit h hD hG hn S d k).putAt _ _ _ fun i hi => by
  rw [List.mem_range, hn] at hi
  have h0 : i < (stripeL D L G (chunkB D d k)).length := by rw [stripeL_len]; exact hi
  have e : (stripeL D L G (chunkB D d k)).getD i [] = (stripeL D L G (chunkB D d k))[i] := by simp [h0]
  have h1 : (Rec.shard ((stripeL D L G (chunkB D d k)).getD i [])).ok := by rw [e]; exact stripeL_row hD hG _ i h0
  exact ⟨blk_len h1, blk_lt h1⟩
theorem bs_mid {off c : Nat} {d : List Nat} (h : Bs w (.slice (some ⟨b, off, none⟩) n c) d) (hn : n = d.length) {ks m m' : Nat} (hm : ((d.drop ks).take m).length = m') (hk : ks + m' ≤ n) : Bs w (.slice (some ⟨b, off + ks, none⟩) m' (c - ks)) ((d.drop ks).take m) := by
 obtain ⟨ao, c', e, h1, h2, h3, h4⟩ := h
 simp only [Value.slice.injEq] at e
 obtain ⟨rfl, _, rfl⟩ := e
 refine ⟨_, _, by rw [hm], by omega, by omega, fun x hx => h3 x (List.mem_of_mem_drop (List.mem_of_mem_take hx)), fun hl => ⟨b, off + ks, rfl, fun k h0 => ?_⟩⟩
 obtain ⟨b', off', e2, hc⟩ := h4 (fun e => by rw [e] at hl; simp at hl)
 simp only [Option.some.injEq, Addr.mk.injEq] at e2
 obtain ⟨rfl, rfl, _⟩ := e2
 have h5 : k < m := by rw [List.length_take] at h0; omega
 rw [Nat.add_assoc, hc (ks + k) (by omega)]
 simp only [List.getD_eq_getElem?_getD, List.getElem?_take_of_lt h5, List.getElem?_drop]
def WoPost (w : World) (p : Nat) (A : Arr) (F : Foot) (B : Arr) (e : Ending) (w' : World) : Prop := e = .returned .nilIface ∧ ArrAt w' p B F ∧ Outside (F.has p A.n) w w'
theorem writeObject_any {ho D' L' G' f nn : Nat} {ofb : Bool} (hA : ArcAt w ar v D' L' G' t f nn pg ob ofb) (hV : Vol w v p D L G ps ho A F) (hF : Free F p A.n v) (ka : ¬ F.has p A.n ar) (hf : A.fit) (hn : A.n = D + L + G) (hr : rightB D L G = true) (kb : 1 ≤ D) (hD : D ≤ 12) (hL : 1 ≤ L) (kc : L ≤ 4) (hG : G ≤ 4) (hh : D % L = 0) (kd : D + L + G ≤ 16)
 (hw : A.wait < 0) (ha : ∀ i, A.lost i = false) (nm : ByteArray) (sv : Value) (S : List Nat) (hS : Ints (fun k => ¬ F.has p A.n k) w sv S) (ke : ∀ x ∈ S, x < A.nb) (b off c : Nat) (d : List Nat) (hd : ∀ w', Outside (F.has p A.n) w w' → Bs w' (.slice (some ⟨b, off, none⟩) d.length c) d) (kf : d.length ≤ 1500) (kg : d.length < c) (hp : ∀ k, k < S.length → k * (D * 44) ≤ d.length) :
 Calls Tryz.prog 88 #[.pointer (some ⟨ar, 0, none⟩), .agg #[.string nm, .int .i64 (d.length : Nat), sv], .slice (some ⟨b, off, none⟩) d.length c] w (WoPost w p A F (A.objTo D L G S d S.length)) := by
 obtain ⟨sa, sc, rfl, hq, _⟩ := id hS
 obtain ⟨c0, _⟩ := hA.cells
 have hs := fun W (hW : Below w.heap.size w W) => stripeSize_any (hV.vol.keep (hW.block _ hV.vol.lt)) (by omega)
 obtain ⟨sz, hc⟩ : ∃ sz, D * 44 = sz := ⟨_, rfl⟩
 have kh : 44 ≤ sz ∧ sz ≤ 528 := by omega
 have h0 : Below w.heap.size w (w.alloc (.cells #[.string nm, .int .i64 (d.length : Nat), .slice sa S.length sc] 114)) := (Below.refl _ w).alloc (Nat.le_refl _) _
 have h3 : RowC (w.alloc (.cells #[.string nm, .int .i64 (d.length : Nat), .slice sa S.length sc] 114)) w.heap.size 114 [.string nm, .int .i64 (d.length : Nat), .slice sa S.length sc] := heap_alloc_last w _
 obtain ⟨n, h5⟩ : ∃ n, d.length = n := ⟨_, rfl⟩
 rw [h5] at h0 h3 kg kf ⊢
 have g2 := h3.cell (j := 2) (u := .slice sa S.length sc) rfl
 have gc0 := (h0.cell (p := ⟨ar, 0, none⟩) hA.lt).trans c0
 have h4 := hs _ h0
 obtain ⟨w1, ki⟩ : ∃ w1, w.alloc (.cells #[.string nm, .int .i64 (n : Nat), .slice sa S.length sc] 114) = w1 := ⟨_, rfl⟩
 rw [ki] at h4 g2 gc0 h0 h3
 rw [hc] at h4 hp
 have H0 := hide8 hA hV hS hd h0 h3 h5 hc
 clear hA hV hS hd hs h0 h3 h5 c0
 go_enter Tryz.func88, Tryz.ntmps88
 go_wp2_with fail
 refine h4.mono ?_
 rintro e w1' ⟨rfl, rfl⟩
 clear h4
 go_wp2
 go_loopw [19] (fun i wr => ∃ k : Nat, i = .int .i64 (k : Nat) ∧ k ≤ S.length ∧ ArrAt wr p (A.objTo D L G S d k) F ∧ Outside (F.has p A.n) w1' wr) (fun i _ => S.length - (intOf i).toNat)
 case atStart => exact ⟨0, rfl, Nat.zero_le _, H0.out.2.1.arr.below H0.out.2.2.2.2.1 (Nat.le_refl _), Outside.refl _ _⟩
 case round =>
  clear g2 gc0
  obtain ⟨k, rfl, hk, hg, hO⟩ := hrel
  by_cases h9 : k < S.length
  · obtain ⟨hA, hV, hS, hd, h0, h3, h5, hc⟩ := H0.out
    have he : Outside (F.has p A.n) w wr := (Outside.of_all h0 _).trans hO
    obtain ⟨sb, so, sc', e1, hx⟩ := ints_at (hS.keep (KpS.of_outside he)) (fun e => by rw [e] at h9; simp at h9)
    simp only [Value.slice.injEq] at e1
    obtain ⟨rfl, _, rfl⟩ := e1
    have g1 := hx k h9
    obtain ⟨y, hy⟩ : ∃ y, S[k] = y := ⟨_, rfl⟩
    rw [hy] at g1
    have kj : y < A.nb := by rw [← hy]; exact ke _ (List.getElem_mem h9)
    have hi := hA.keep (he.block _ hA.lt ka)
    obtain ⟨ca, _⟩ := hi.cells
    have kk : ¬ F.has p A.n w.heap.size := fun h => by have := hV.arr.has_lt h; omega
    have hj : RowC wr w.heap.size 114 _ := h3.keep (hO.block _ h3.lt kk)
    have cz := hj.cell (j := 1) (u := .int .i64 (n : Nat)) rfl
    have hz := hp k h9
    obtain ⟨ks, k0⟩ : ∃ ks, k * sz = ks := ⟨_, rfl⟩
    obtain ⟨ks1, hm⟩ : ∃ ks1, (k + 1) * sz = ks1 := ⟨_, rfl⟩
    have h6 : (k + 1) * sz = k * sz + sz := Nat.succ_mul k sz
    have km : (k : Int) * (sz : Int) = ((k * sz : Nat) : Int) := by rw [Int.natCast_mul]
    have kn : ((k : Int) + 1) * (sz : Int) = (((k + 1) * sz : Nat) : Int) := by rw [Int.natCast_mul]; rfl
    rw [k0] at km h6 hz
    rw [hm] at kn h6
    rw [h5] at hz
    obtain ⟨bb, ko⟩ : ∃ bb, min ks1 n = bb := ⟨_, rfl⟩
    have q0 : ks ≤ bb := by omega
    have q1 : bb ≤ c := by omega
    have k5 : chunkB D d k = (d.drop ks).take sz := by unfold chunkB; rw [hc, k0]
    have h7 : ((d.drop ks).take sz).length = bb - ks := by rw [List.length_take, List.length_drop]; omega
    have kp : ∀ ats ty w, (Builtin.min_ ats ty #[.int .i64 (ks1 : Nat), .int .i64 (n : Nat)]).run Tryz.prog w = .ok (.int .i64 (bb : Nat)) w := fun ats ty w => by
     rw [run_min_int]
     by_cases h1 : ((n : Nat) : Int) < ((ks1 : Nat) : Int)
     · rw [if_pos h1, show bb = n by omega]
     · rw [if_neg h1, show bb = ks1 by omega]
    have h8 := objTo_n A D L G S d k
    have k6 : Calls Tryz.prog 125 #[.pointer (some ⟨v, 0, none⟩), .int .i64 y, .slice (some ⟨b, off + ks, none⟩) (bb - ks) (c - ks)] wr.drew fun e w' => e = .returned .nilIface ∧ ArrAt w' p (A.objTo D L G S d (k + 1)) F ∧ Outside (F.has p A.n) w1' w' := by
     have kr : Vol wr.drew v p D L G ps ho (A.objTo D L G S d k) F := hV.turn hF (he.trans (Outside.drew _)) (hg.keep fun _ _ => rfl)
     have k7 := hd wr.drew (he.trans (Outside.drew _))
     rw [h5] at k7
     refine (writeStripe_ok kr (by rw [h8.1]; exact hF) (objTo_fit hf hD hG hn S d k) (by rw [h8.1]; exact hn) hr kb hD hL kc hG hh kd y (by rw [h8.2.1]; exact kj) (by rw [h8.2.2.1]; exact hw) (by rw [h8.2.2.2]; exact ha) _ _ (bs_mid k7 h5.symm h7 (by omega)) (by rw [h7]; omega)).mono ?_
     rintro e w' ⟨rfl, h1, h2⟩
     rw [h8.1] at h1 h2
     refine ⟨rfl, ?_, hO.trans ((Outside.drew _).trans h2)⟩
     have : A.objTo D L G S d (k + 1) = (A.objTo D L G S d k).putAt (List.range A.n) y (fun i => (Rec.shard ((stripeL D L G ((d.drop ks).take sz)).getD i [])).blk) := by
      rw [Arr.objTo, k5, getD_in h9, hy]
     rw [this]; exact h1
    have HW := hide3 k6 hi hj
    have q2 : bb ≤ n := by omega
    have kv : ¬ c = ks := by omega
    have q3 : IntKind.i64.wrap ((k : Int) + 1) = (k : Int) + 1 := by rw [IntKind.wrap_i64]; omega
    have kx : IntKind.i64.wrap (ks : Int) = (ks : Int) := by rw [IntKind.wrap_i64]; omega
    have ky : IntKind.i64.wrap (ks1 : Int) = (ks1 : Int) := by rw [IntKind.wrap_i64]; omega
    clear k6 hi hj hO he hg h8 k5 h7 hx hy hA hV hS hd h0 h3 h5 hc ko h6
    go_wp2
    go_region_with (go_at_call 125; refine HW.out.1.mono ?_; rintro e w2 ⟨rfl, k8, k9⟩; have H2 := hide2 k8 k9; clear k8 k9)
    all_goals (
     go_wp2
     go_roundw
     case rel => exact ⟨k + 1, by go_num, by omega, H2.out.1, H2.out.2⟩
     case measure => simp only [intOf]; omega)
  · have kz : k = S.length := by omega
    subst kz
    have H2 := hide2 hg hO
    clear hg hO
    go_wp2
    go_ret
    exact ⟨rfl, H2.out.1, (Outside.of_all H0.out.2.2.2.2.1 _).trans H2.out.2⟩
theorem live_turn {w' : World} {vp vo : Value} {P' : List Nat} {xs' : Obs} (h : Live w ar v p ps D L G t pg ob P xs A F) (ha : ArcAt w' ar v D L G (t + 1) (P'.getD 0 0) (packL xs'.os).length vp vo false) (hB : ArrAt w' p B F) (hO : Outside (fun k => k = ar ∨ F.has p A.n k) w w') (hn : B.n = A.n) (h0 : B.nb = A.nb) (hf : B.fit)
 (hd : OnDisk B D L G (t + 1) P' xs') (hP : Ints (fun k => ar < k ∧ ¬ F.has p A.n k) w' vp P') (hC : Cat (fun k => ar < k ∧ ¬ F.has p A.n k) w' vo xs'.os) (ht : t + 1 ≤ 1000000) : Live w' ar v p ps D L G (t + 1) vp vo P' xs' B F := by
 have hK := h.arK
 have hv := hO.block _ h.vol.vol.lt (fun e => e.elim h.vne h.free.v)
 have k1 : 2 < 3 := by decide
 have k2 : 1 < 3 := by decide
 have hg := hO.block _ h.vol.laid.lt (fun e => e.elim (fun q => by omega) h.free.g)
 have h1 := hO.block _ h.vol.tab.lt (fun e => e.elim (fun q => by omega) h.free.t)
 exact ⟨ha, ⟨h.vol.vol.keep hv, hB, h.vol.laid.keep hg, h.vol.tab.keep h1, Nat.le_trans h.vol.room hO.size⟩, by rw [hn]; exact h.free, by rw [hn]; exact h.nar, h.vne, h.arK, hf, h.par, hd, by rw [hn]; exact hP, by rw [hn]; exact hC, by rw [h0]; exact h.nb, ht⟩
theorem commit_fit (h : B.fit) {D L G t f m : Nat} (hr : Pars D L G) (hn : B.n = D + L + G) (ht : t ≤ 1000001) (hf : f < B.nb) (hm : m ≤ 2000000) (P l : List Nat) (k : Nat) : ((B.pagesTo D L G P l k).putAt (List.range B.n) 0 (fun _ => (Rec.root D L G t f m).blk)).fit := by
 have h1 := h.nb
 have h0 : (Rec.root D L G t f m).ok := by
  have := hr.d; have := hr.l4; have := hr.g
  exact ⟨by omega, by omega, by omega, by omega, by omega, by omega⟩
 exact (pagesTo_fit h hr.d hr.g hn P l k).putAt _ _ _ fun i _ => ⟨blk_len h0, blk_lt h0⟩
theorem pgs_room (hD : 1 ≤ D) (h : k < Go.Proofs.YtpaemkanfnddoaaGreatDoor.pgs D m) : k * (D * 44 - 4) ≤ m := by
 unfold Go.Proofs.YtpaemkanfnddoaaGreatDoor.pgs at h
 rcases Nat.eq_zero_or_pos k with rfl | hk
 · simp
 · have h2 : k < (m + (D * 44 - 4) - 1) / (D * 44 - 4) := by omega
   have h3 : (k + 1) * (D * 44 - 4) ≤ m + (D * 44 - 4) - 1 := (Nat.le_div_iff_mul_le (by omega)).1 h2
   rw [Nat.succ_mul] at h3
   omega
theorem cnt_room (hD : 1 ≤ D) (h : k < stOf D n) : k * (D * 44) ≤ n := by
 unfold stOf at h
 rcases Nat.eq_zero_or_pos k with rfl | hk
 · simp
 · have h2 : k < (n + D * 44 - 1) / (D * 44) := by omega
   have h3 : (k + 1) * (D * 44) ≤ n + D * 44 - 1 := (Nat.le_div_iff_mul_le (by omega)).1 h2
   rw [Nat.succ_mul] at h3
   omega
theorem ints_head (ho : w.ownsRow base 3 1 (.slice (some ⟨g, 0, none⟩) (a + b) cap) (a + b) (ivs l)) (hl : l.length = a + b) (hK : K g) (hb : a + b ≤ 100000) : Ints K w (.slice (some ⟨g, 0, none⟩) a c1) (l.take a) := by
 rcases ho.2 with ⟨e, _⟩ | ⟨g', cap', cur, e, h2, hg, h3, h4, h5, h0⟩
 · cases e
 · simp only [Value.slice.injEq, Option.some.injEq, Addr.mk.injEq] at e
   obtain ⟨⟨rfl, _, _⟩, _, rfl⟩ := e
   have h1 : (l.take a).length = a := by rw [List.length_take]; omega
   refine ⟨_, c1, by rw [h1], by omega, fun _ => ⟨g, 0, rfl, hK, (Array.getElem?_eq_some_iff.1 hg).1, fun i hi => ?_⟩⟩
   have hc := ho.cells (g := g) rfl i (.int .i64 ((l[i]'(by omega) : Nat) : Int)) (by unfold ivs; rw [List.getElem?_map, List.getElem?_eq_getElem (by omega)]; rfl)
   rw [add0] at hc
   rw [Nat.zero_add, List.getElem_take]
   exact hc
theorem ints_tail (ho : w.ownsRow base 3 1 (.slice (some ⟨g, 0, none⟩) (a + b) cap) (a + b) (ivs l)) (hl : l.length = a + b) (hK : K g) (hb : a + b ≤ 100000) : Ints K w (.slice (some ⟨g, a, none⟩) b c1) (l.drop a) := by
 rcases ho.2 with ⟨e, _⟩ | ⟨g', cap', cur, e, h2, hg, h3, h4, h5, h0⟩
 · cases e
 · simp only [Value.slice.injEq, Option.some.injEq, Addr.mk.injEq] at e
   obtain ⟨⟨rfl, _, _⟩, _, rfl⟩ := e
   have h1 : (l.drop a).length = b := by rw [List.length_drop]; omega
   refine ⟨_, c1, by rw [h1], by omega, fun _ => ⟨g, a, rfl, hK, (Array.getElem?_eq_some_iff.1 hg).1, fun i hi => ?_⟩⟩
   have hc := ho.cells (g := g) rfl (a + i) (.int .i64 ((l[a + i]'(by omega) : Nat) : Int)) (by unfold ivs; rw [List.getElem?_map, List.getElem?_eq_getElem (by omega)]; rfl)
   rw [add0] at hc
   rw [List.getElem_drop]
   exact hc
section
theorem packL_lt (os : List Ob) : ∀ x ∈ packL os, x < 256 := by
 intro x hx
 unfold packL at hx
 obtain ⟨o, _, hx⟩ := List.mem_flatMap.1 hx
 unfold packOb at hx
 simp only [List.mem_append] at hx
 rcases hx with ((h | h) | h) | h
 · exact be_lt _ _ x h
 · unfold nameB at h
   rcases List.mem_append.1 h with h | h
   · obtain ⟨b, _, rfl⟩ := List.mem_map.1 h
     exact b.toNat_lt
   · rw [List.eq_of_mem_replicate h]; decide
 · exact be_lt _ _ x h
 · obtain ⟨s, _, h⟩ := List.mem_flatMap.1 h
   exact be_lt _ _ x h
def PuPost (w : World) (ar v p ps D L G t : Nat) (xs : Obs) (A : Arr) (F : Foot) (x : ByteArray) (d : List Nat) (e : Ending) (w' : World) : Prop :=
 e = .returned .nilIface ∧ ∃ pg ob P' B o, o.name = x ∧ Live w' ar v p ps D L G (t + 1) pg ob P' (xs.ins (o, d)) B F ∧ B.n = A.n ∧ B.nb = A.nb ∧ Outside (fun k => k = ar ∨ F.has p A.n k) w w'
structure PutReady (w w1 : World) (ar v p ps D L G t : Nat) (pg ob : Value) (P : List Nat) (xs : Obs) (A : Arr) (F : Foot) (x : ByteArray) (d fr : List Nat) (g cnt pgn c1 : Nat) : Prop where
 live : Live w ar v p ps D L G t pg ob P xs A F
 out : Outside (F.has p A.n) w w1
 arr : ArrAt w1 p (A.objTo D L G (fr.take cnt) d cnt) F
 nm : namedB x = true
 no : x ∉ xs.names
 dl : d.length ≤ 1500
 dx : ∀ b ∈ d, b < 256
 c : cnt = stOf D d.length
 pn : pgn = pgOf D (packL xs.os).length d.length
 f : fr = (frees (tk A.nb (P ++ allSt xs.os)).1 A.nb).take (cnt + pgn)
 fl : fr.length = cnt + pgn
 room : (allSt xs.os).length + cnt + 2 * pgn + 2 ≤ A.nb
 s : Ints (fun k => ar < k ∧ ¬ F.has p A.n k) w1 (.slice (some ⟨g, 0, none⟩) cnt cnt) (fr.take cnt)
 q : Ints (fun k => ar < k ∧ ¬ F.has p A.n k) w1 (.slice (some ⟨g, cnt, none⟩) pgn c1) (fr.drop cnt)
 tt : t + 1 ≤ 1000000
section
variable {w w1 : World} {ar v p ps D L G t : Nat} {pg ob : Value} {P : List Nat} {xs : Obs} {A : Arr} {F : Foot} {x : ByteArray} {d fr : List Nat} {g cnt pgn c1 : Nat}
def obOf (x : ByteArray) (d fr : List Nat) (cnt : Nat) : Ob := ⟨x, d.length, fr.take cnt⟩
theorem PutReady.stl (h : PutReady w w1 ar v p ps D L G t pg ob P xs A F x d fr g cnt pgn c1) : (fr.take cnt).length = cnt := by rw [List.length_take, h.fl]; omega
theorem PutReady.pgl (h : PutReady w w1 ar v p ps D L G t pg ob P xs A F x d fr g cnt pgn c1) : (fr.drop cnt).length = pgn := by rw [List.length_drop, h.fl]; omega
theorem PutReady.apart (h : PutReady w w1 ar v p ps D L G t pg ob P xs A F x d fr g cnt pgn c1) : (fr ++ (P ++ allSt xs.os)).Nodup ∧ ∀ b ∈ fr ++ (P ++ allSt xs.os), 2 ≤ b ∧ b < A.nb := by
 rw [h.f]
 exact take_apart h.live.disk.nod h.live.disk.inb _
theorem PutReady.obFit (h : PutReady w w1 ar v p ps D L G t pg ob P xs A F x d fr g cnt pgn c1) : ObFit D (obOf x d fr cnt, d) := by
 have hn : 1 ≤ x.size ∧ x.size ≤ 16 := by have := h.nm; unfold namedB at this; exact of_decide_eq_true this
 refine ⟨⟨hn, h.dl, fun b hb => ?_, ?_⟩, ?_, rfl, h.dx⟩
 · have := (h.apart.2 b (List.mem_append_left _ (List.mem_of_mem_take hb))).2
   have := h.live.nb
   omega
 · show (fr.take cnt).length ≤ 1000
   rw [h.stl, h.c]; have := stOf_le h.live.par.d1 h.dl; omega
 · show (fr.take cnt).length = _
   rw [h.stl, h.c]; rfl
theorem PutReady.packed (h : PutReady w w1 ar v p ps D L G t pg ob P xs A F x d fr g cnt pgn c1) : (packL (xs.ins (obOf x d fr cnt, d)).os).length = (packL xs.os).length + (19 + 4 * cnt) := by
 rw [packL_ins]
 have e : (packOb (obOf x d fr cnt)).length = 19 + 4 * (fr.take cnt).length := packOb_len h.obFit.fit
 rw [h.stl] at e
 exact congrArg _ e
theorem PutReady.kept (h : PutReady w w1 ar v p ps D L G t pg ob P xs A F x d fr g cnt pgn c1) : KpS (fun k => ar < k ∧ ¬ F.has p A.n k) w w1 := ⟨h.out.size, fun k hk hK => h.out.block k hk hK.2⟩
theorem put_with (h : PutReady w w1 ar v p ps D L G t pg ob P xs A F x d fr g cnt pgn c1) :
 Calls Tryz.prog 89 #[ob, .int .i64 (placeN xs.names x : Nat), .agg #[.string x, .int .i64 (d.length : Nat), .slice (some ⟨g, 0, none⟩) cnt cnt]] w1 (WiPost (fun k => ar < k ∧ ¬ F.has p A.n k) w1 (xs.ins (obOf x d fr cnt, d)).os) := by
 have hl : xs.os.length = xs.names.length := by rw [← names_os, namesOf_len]
 have hc := catWith_any (h.live.cat.keep h.kept) (by have := h.live.few.1; omega) (fun k hk => ⟨by have := h.live.arc.lt; have := h.out.size; omega, fun e => by have := h.live.vol.arr.has_lt e; have := h.out.size; omega⟩) (i := placeN xs.names x) (by rw [hl]; exact placeN_le _ _) (obOf x d fr cnt) _ h.s
 rw [os_ins]
 exact hc
theorem put_commit (h : PutReady w w1 ar v p ps D L G t pg ob P xs A F x d fr g cnt pgn c1) {w2 : World} {u : Value} (hC : Cat (fun k => ar < k ∧ ¬ F.has p A.n k) w2 u (xs.ins (obOf x d fr cnt, d)).os) (hb : Below w1.heap.size w1 w2) :
 Calls Tryz.prog 71 #[.pointer (some ⟨ar, 0, none⟩), u, .slice (some ⟨g, cnt, none⟩) pgn c1] w2 (PuPost w ar v p ps D L G t xs A F x d) := by
 obtain ⟨oo, oc, rfl, kd, _⟩ := id hC
 have hr := h.live.par
 have he := h.stl
 have h0 := h.pgl
 have h8 := objTo_n A D L G (fr.take cnt) d cnt
 have hm : Outside (F.has p A.n) w w2 := h.out.trans (Outside.of_all hb _)
 have hd := h.live.disk
 have k6 : 1 ≤ pgn := by rw [h.pn]; unfold pgOf pgs; omega
 have k7 : fr.drop cnt ≠ [] := fun e => by rw [e] at h0; simp at h0; omega
 have hf : ∀ b ∈ fr.drop cnt, b < A.nb := fun b k8 => (h.apart.2 b (List.mem_append_left _ (List.mem_of_mem_drop k8))).2
 have hq := h.packed
 have hn : (packL (xs.ins (obOf x d fr cnt, d)).os).length ≤ 1000000 := by
  have h1 := h.live.packL_le
  have h2 := stOf_le h.live.par.d1 h.dl
  have h3 := packL_bound (xs := xs) h.live.par.d1 hd.fits
  have h4 := h.live.few.1
  have h5 : xs.os.length = xs.length := by simp [Obs.os]
  have h6 : 1500 / (D * 44) ≤ 34 := by
   have := h.live.par.d1
   have : 1500 / (D * 44) ≤ 1500 / 44 := Nat.div_le_div_left (by omega) (by decide)
   omega
  have h7 : xs.length * (19 + 4 * (1500 / (D * 44) + 1)) ≤ 1000 * (19 + 4 * (34 + 1)) := Nat.mul_le_mul (by omega) (by omega)
  rw [hq, h.c]
  omega
 have hs : (fr.drop cnt).length = pgs D (packL (xs.ins (obOf x d fr cnt, d)).os).length := by rw [h0, h.pn, hq, h.c]; rfl
 have hg : ∀ y ∈ xs.ins (obOf x d fr cnt, d), ObFit D y := fun y hy => by
  rcases List.mem_cons.1 ((ins_perm xs (obOf x d fr cnt, d)).mem_iff.1 hy) with e | e
  · rw [e]; exact h.obFit
  · exact hd.fits y e
 have hh : ∀ o ∈ (xs.ins (obOf x d fr cnt, d)).os, o.fit := fun o ho => by
  obtain ⟨y, hy, rfl⟩ := List.mem_map.1 ho
  exact (hg y hy).fit
 have hp : (xs.ins (obOf x d fr cnt, d)).os.length ≤ 10000 := by
  have := (ins_perm xs (obOf x d fr cnt, d)).length_eq
  have e : (xs.ins (obOf x d fr cnt, d)).os.length = (xs.ins (obOf x d fr cnt, d)).length := by simp [Obs.os]
  have h4 := h.live.few.1
  have h5 : xs.os.length = xs.length := by simp [Obs.os]
  rw [e, this, List.length_cons]
  omega
 have k9 : ArrAt w2 p (A.objTo D L G (fr.take cnt) d cnt) F := h.arr.below hb (Nat.le_refl _)
 have ka : Vol w2 v p D L G ps 0 (A.objTo D L G (fr.take cnt) d cnt) F := h.live.vol.turn h.live.free hm k9
 have hx : Ints (fun k => ar < k ∧ ¬ F.has p A.n k) w2 (.slice (some ⟨g, cnt, none⟩) pgn c1) (fr.drop cnt) := h.q.keep (KpS.of_below hb)
 have hc := commit_any (w := w2) (h.live.arc.keep (hm.block _ h.live.arc.lt h.live.nar)) ka (by rw [h8.1]; exact h.live.free) (by rw [h8.1]; exact h.live.nar) (objTo_fit h.live.fit hr.d hr.g hd.n _ _ _) (by rw [h8.1]; exact hd.n) hr.r hr.d1 hr.d hr.l1 hr.l4 hr.g hr.div hr.s (by rw [h8.2.2.1]; exact hd.wait) (by rw [h8.2.2.2]; exact hd.lost) (by have := h.live.turn; omega)
  oo _ oc (packL (xs.ins (obOf x d fr cnt, d)).os) (packL_lt _) hn (packOk_any hC.any hh hp) g cnt c1 (fr.drop cnt) (by rw [h0, h8.1]; exact hx.widen fun k hk => hk.2) k7 (by rw [h8.2.1]; exact hf) (fun k hk => pgs_room hr.d1 (by rw [← hs]; exact hk))
 rw [h0] at hc
 refine hc.mono ?_
 rintro e w3 ⟨rfl, hz, kb, hi⟩
 rw [h8.1, h0] at hz
 rw [h8.1] at hi
 have h9 : Outside (fun k => k = ar ∨ F.has p A.n k) w w3 := (hm.mono fun _ _ e => .inr e).trans hi
 have k0 : KpS (fun k => ar < k ∧ ¬ F.has p A.n k) w2 w3 := ⟨hi.size, fun k hk hK => hi.block k hk (fun e => e.elim (fun q => by have := hK.1; omega) hK.2)⟩
 have ha := disk_put hd (obOf x d fr cnt, d) h.obFit h.no hs (by
  show ((fr.take cnt ++ fr.drop cnt) ++ (P ++ allSt xs.os)).Nodup
  rw [List.take_append_drop]; exact h.apart.1) (by
  show ∀ b ∈ (fr.take cnt ++ fr.drop cnt) ++ (P ++ allSt xs.os), 2 ≤ b ∧ b < A.nb
  rw [List.take_append_drop]; exact h.apart.2) (by
  show (allSt xs.os).length + (fr.take cnt).length + 2 * (fr.drop cnt).length + 2 ≤ A.nb
  rw [he, h0]; exact h.room)
 have e1 : (obOf x d fr cnt, d).1.stripes.length = cnt := he
 rw [e1, h0] at ha
 have kc : (fr.drop cnt).getD 0 0 < A.nb := by
  rw [getD_in (by rw [h0]; omega)]
  exact hf _ (List.getElem_mem _)
 have k5 := commit_fit (B := A.objTo D L G (fr.take cnt) d cnt) (t := t + 1) (f := (fr.drop cnt).getD 0 0) (m := (packL (xs.ins (obOf x d fr cnt, d)).os).length) (objTo_fit h.live.fit hr.d hr.g hd.n _ _ _) hr (by rw [h8.1]; exact hd.n) (by have := h.tt; omega) (by rw [h8.2.1]; exact kc) (by omega) (fr.drop cnt) (packL (xs.ins (obOf x d fr cnt, d)).os) pgn
 rw [h8.1] at k5
 have hj := pagesTo_n (A.objTo D L G (fr.take cnt) d cnt) D L G (fr.drop cnt) (packL (xs.ins (obOf x d fr cnt, d)).os) pgn
 refine ⟨rfl, _, _, fr.drop cnt, _, obOf x d fr cnt, rfl, live_turn h.live kb hz h9 ?_ ?_ k5 ha (hx.keep k0) (hC.keep k0) h.tt, ?_, ?_, h9⟩
 · exact hj.1.trans h8.1
 · exact hj.2.1.trans h8.2.1
 · exact hj.1.trans h8.1
 · exact hj.2.1.trans h8.2.1
end
end
end Go.Proofs.YtpaemkanfnddoaaGreatDoor
