import Derived.Deep.CutRange
import Derived.Test.YtpaemkanfnddoaaGreatDoorM43
set_option maxRecDepth 100000
set_option maxHeartbeats 8000000
namespace Go.Proofs.YtpaemkanfnddoaaGreatDoor
open Go.RowKit Go.Deep Gf
variable {A : Arr} {F : Foot} {P : List Nat} {ar v p ps D L G t sa : Nat} {xs : Obs} {pg ob a b c a' b' c' : Value} {w w7 w8 : World}
theorem put_take (h : Live w ar v p ps D L G t pg ob P xs A F) {n cnt pgn : Nat} (hc : cnt = stOf D n) (hp : pgn = pgOf D (packL xs.os).length n) (h1 : (allSt xs.os).length + cnt + 2 * pgn + 2 ≤ A.nb) :
 Calls Tryz.prog 68 #[.pointer (some ⟨ar, 0, none⟩), .int .i64 ((cnt : Int) + (pgn : Int))] w fun e w' => ∃ g cap, e = .returned (.tuple #[.slice (some ⟨g, 0, none⟩) (cnt + pgn) cap, .bool true]) ∧ w'.ownsRow w.heap.size 3 1 (.slice (some ⟨g, 0, none⟩) (cnt + pgn) cap) (cnt + pgn) (ivs ((frees (tk A.nb (P ++ allSt xs.os)).1 A.nb).take (cnt + pgn))) ∧ ((frees (tk A.nb (P ++ allSt xs.os)).1 A.nb).take (cnt + pgn)).length = cnt + pgn ∧ cnt + pgn ≤ cap ∧ w.heap.size ≤ g ∧ g < w'.heap.size ∧ Below w.heap.size w w' := by
 have hb := put_blocks h.disk (count := cnt) (pages := pgn) (l := 19 + 4 * stOf D n) hp h1
 have h7 := h.nb
 have h3 : 1 ≤ cnt := by rw [hc]; unfold stOf; omega
 have hk := arcTake_any h.arc h.vol.vol h.vol.arr h.fit h.n0 P xs.os h.pgs.any h.cat.any (cnt + pgn) (by omega)
 rw [decide_eq_true hb, Int.natCast_add] at hk
 have h2 : ((frees (tk A.nb (P ++ allSt xs.os)).1 A.nb).take (cnt + pgn)).length = cnt + pgn := by rw [List.length_take]; omega
 rw [h2] at hk
 refine hk.mono ?_
 rintro e w' ⟨u, rfl, ho, h4⟩
 rcases ho.2 with ⟨_, h0⟩ | ⟨g, cap, cur, rfl, h5, hg, h6, _⟩
 · omega
 · exact ⟨g, cap, rfl, ho, h2, h6, h5, (Array.getElem?_eq_some_iff.1 hg).1, h4⟩
theorem rowc_set3 {q : Nat} {e : TypeId} (h : RowC w q e [a, b, c]) : RowC (((w.setCell ⟨q, 0, none⟩ a').setCell ⟨q, 1, none⟩ b').setCell ⟨q, 2, none⟩ c') q e [a', b', c'] :=
 RowC.set h 0 [a', b', c'] (by simp)
theorem put_meetA (h : Below w7.drew.heap.size w7.drew w8) : ∃ q, Value.pointer (some ⟨w8.heap.size, 0, none⟩) = .pointer (some ⟨q, 0, none⟩) ∧ RowC (w8.alloc (.cells #[a, b, c] 114)) q 114 [a, b, c] ∧ w7.heap.size ≤ q ∧ Below w7.heap.size w7 (w8.alloc (.cells #[a, b, c] 114)) := by
 have h1 : Below w7.heap.size w7 w8 := (Below.refl _ w7).drew.trans h
 exact ⟨_, rfl, heap_alloc_last w8 _, h1.size, h1.alloc h1.size _⟩
theorem put_meetB (h : Below (w7.drew.alloc (.cells #[a', b', c'] 114)).heap.size (w7.drew.alloc (.cells #[a', b', c'] 114)) w8) (hR : RowC w8 w7.heap.size 114 [a', b', c']) : ∃ q, Value.pointer (some ⟨w7.heap.size, 0, none⟩) = .pointer (some ⟨q, 0, none⟩) ∧ RowC (((w8.setCell ⟨w7.heap.size, 0, none⟩ a).setCell ⟨w7.heap.size, 1, none⟩ b).setCell ⟨w7.heap.size, 2, none⟩ c) q 114 [a, b, c] ∧ w7.heap.size ≤ q ∧ Below w7.heap.size w7 (((w8.setCell ⟨w7.heap.size, 0, none⟩ a).setCell ⟨w7.heap.size, 1, none⟩ b).setCell ⟨w7.heap.size, 2, none⟩ c) := by
 have h0 : Below w7.heap.size w7 (w7.drew.alloc (.cells #[a', b', c'] 114)) := (Below.refl _ w7).drew.alloc (Nat.le_refl _) _
 have h1 : Below w7.heap.size w7 w8 := h0.trans (h.mono h0.size)
 refine ⟨_, rfl, rowc_set3 hR, Nat.le_refl _, ?_⟩
 exact Below.setCell (p := ⟨w7.heap.size, 2, none⟩) (Below.setCell (p := ⟨w7.heap.size, 1, none⟩) (Below.setCell (p := ⟨w7.heap.size, 0, none⟩) h1 (Nat.le_refl _) a) (Nat.le_refl _) b) (Nat.le_refl _) c
theorem put_ok (h : Live w ar v p ps D L G t pg ob P xs A F) (x : ByteArray) (b off c : Nat) (d : List Nat) (hd : ∀ w', Outside (F.has p A.n) w w' → Bs w' (.slice (some ⟨b, off, none⟩) d.length c) d) (kg : d.length < c) (hx : namedB x = true) (qf : d.length ≤ 1500) (hm : x ∉ xs.names) (h0 : (allSt xs.os).length + stOf D d.length + 2 * pgOf D (packL xs.os).length d.length + 2 ≤ A.nb) (qg : t + 1 ≤ 1000000) :
 Calls Tryz.prog 56 #[.pointer (some ⟨ar, 0, none⟩), .string x, .slice (some ⟨b, off, none⟩) d.length c] w (PuPost w ar v p ps D L G t xs A F x d) := by
 obtain ⟨n, h3⟩ : ∃ n, d.length = n := ⟨_, rfl⟩
 have HD := hide4 hd h3 kg hm
 have hn : n ≤ 1500 := by omega
 rw [h3] at h0 ⊢
 clear hd h3 kg qf
 obtain ⟨_, _, _, _, c8⟩ := h.arc.cells
 have kk := h.find x
 obtain ⟨k, hk⟩ : ∃ k, placeN xs.names x = k := ⟨_, rfl⟩
 rw [hk, h.notThere hm] at kk
 have qh := hide hk
 have qv : ¬ (1500 : Int) < (n : Int) := by omega
 have km := h.par.d1
 have qi := h.par.d
 have qj := h.packL_le
 have qk := stOf_le km hn
 have q4 : pgOf D (packL xs.os).length n ≤ 1000000 := pgs_le km (by omega)
 have qm := h.few.2.1
 obtain ⟨len, he⟩ : ∃ len, (packL xs.os).length = len := ⟨_, rfl⟩
 obtain ⟨cnt, hf⟩ : ∃ cnt, stOf D n = cnt := ⟨_, rfl⟩
 obtain ⟨pgn, hg⟩ : ∃ pgn, pgOf D len n = pgn := ⟨_, rfl⟩
 rw [he] at q4 h0 qj
 rw [hg] at q4 h0
 rw [hf] at qk h0
 have HE := hide5 h hf hg he h0
 clear hk h hm he hf hg h0
 go_enter Tryz.func56, Tryz.ntmps56
 go_wp2_with fail
 refine kk.mono ?_
 rintro e w1 ⟨rfl, hb⟩
 have H := hide hb
 clear hb kk c8
 go_wp2_with fail
 refine (named_any x w1).mono ?_
 rintro e w2 ⟨rfl, rfl⟩
 rw [hx]
 dsimp only
 have hz := HE.out.1.below H.out
 obtain ⟨d0, _, d6, _, _⟩ := hz.arc.cells
 rw [HE.out.2.2.2.1] at d6
 have kn := stripeSize_any hz.vol.vol (by omega)
 obtain ⟨q, hq⟩ : ∃ q, D * 44 = q := ⟨_, rfl⟩
 rw [hq] at kn
 have ko := stripesOf_any n q (by omega) ⟨by omega, by omega⟩ w2
 have q5 : max 1 ((n + q - 1) / q) = cnt := by rw [← HE.out.2.1, ← hq]; rfl
 rw [q5] at ko
 have kp := fun W => packed_any cnt (by omega) W
 obtain ⟨pk, hh⟩ : ∃ pk, 19 + 4 * cnt = pk := ⟨_, rfl⟩
 have q6 : ∀ W, W.heap = w2.heap → Calls Tryz.prog 69 #[.pointer (some ⟨ar, 0, none⟩), .int .i64 ((len : Int) + (pk : Int))] W fun e w' => e = .returned (.int .i64 (pgn : Nat)) ∧ w' = W := fun W hW => by
  have := pagesOf_any (w := W) (hz.arc.keep (by rw [hW])) (hz.vol.vol.keep (by rw [hW])) km (by omega) (len + (19 + 4 * cnt)) (by omega)
  have e : Go.Proofs.YtpaemkanfnddoaaGreatDoor.pgs D (len + (19 + 4 * cnt)) = pgn := by rw [← HE.out.2.2.1, ← HE.out.2.1]; rfl
  rw [e, hh, Int.natCast_add] at this
  exact this
 rw [hh] at kp
 have qn : pk ≤ 200 := by omega
 have qx : IntKind.i64.wrap ((len : Int) + (pk : Int)) = (len : Int) + (pk : Int) := by rw [IntKind.wrap_i64]; omega
 have HP := hide3 hz kp q6
 clear hz kp q6 q5 hq hh
 go_wp2_with fail
 refine kn.mono ?_
 rintro e w3 ⟨rfl, rfl⟩
 clear kn
 go_wp2_with fail
 refine ko.mono ?_
 rintro e w4 ⟨rfl, rfl⟩
 clear ko
 go_wp2_with fail
 go_quiet (first | (go_at_call 85; refine Calls.quiet_of_same (HP.out.2.1 _)) | (go_at_call 69; refine Calls.quiet_of_same (HP.out.2.2 _ rfl)))
 have kr : Below w4.heap.size w4 (w4.drewN nq) := ⟨rfl, rfl, rfl, Nat.le_refl _, fun _ _ => rfl⟩
 have ha := HP.out.1.below kr
 have kh := roomFor_any ha.arc ha.vol.vol ha.vol.arr ha.fit ha.n0 xs.os ha.cat.any (by omega) cnt pgn (by omega) (by omega)
 have k7 : decide ((allSt xs.os).length + cnt + 2 * pgn + 2 ≤ A.nb) = true := decide_eq_true (HE.out.2.2.2.2)
 rw [k7] at kh
 have HB := hide2 ha (H.out.trans (kr.mono H.out.size))
 clear kr ha k7 d0 d6
 obtain ⟨w5, q7⟩ : ∃ w5, w4.drewN nq = w5 := ⟨_, rfl⟩
 rw [q7] at kh HB ⊢
 clear q7
 go_wp2_with fail
 refine kh.mono ?_
 rintro e w6 ⟨rfl, ks⟩
 have kv := HB.out.1.below ks
 have q8 := put_take kv (n := n) (cnt := cnt) (pgn := pgn) HE.out.2.1.symm (by rw [HE.out.2.2.2.1]; exact HE.out.2.2.1.symm) HE.out.2.2.2.2
 have k8 := hide2 kv (HB.out.2.trans (ks.mono HB.out.2.size))
 clear ks kh HB kv
 dsimp only
 have qy : IntKind.i64.wrap ((cnt : Int) + (pgn : Int)) = (cnt : Int) + (pgn : Int) := by rw [IntKind.wrap_i64]; omega
 go_wp2_with fail
 refine q8.mono ?_
 rintro e w7 ⟨g, cap, rfl, k0, h6, qo, ki, kj, k5⟩
 have HT := hide6 k0 h6 ki kj k5 (k8.out.1.below k5)
 clear q8 k0 h6 ki kj k5
 have k1 : cnt ≤ cap := by omega
 have k2 : cnt ≤ cnt + pgn := by omega
 have k3 : (cnt : Int) ≤ (cap : Int) := by omega
 dsimp only
 go_upto_region 15 with fail
 have qp : 1 ≤ x.size ∧ x.size ≤ 16 := by have := hx; unfold namedB at this; exact of_decide_eq_true this
 have q9 := sclone_any x w7.drew (by omega) (by omega)
 have qa := sclone_any x (w7.drew.alloc (.cells #[.string ⟨#[]⟩, .int .i64 0, .slice none 0 0] 114)) (by omega) (by omega)
 have qb : RowC (w7.drew.alloc (.cells #[.string ⟨#[]⟩, .int .i64 0, .slice none 0 0] 114)) w7.heap.size 114 [.string ⟨#[]⟩, .int .i64 0, .slice none 0 0] := heap_alloc_last w7.drew _
 have HS := hide3 q9 qa qb
 clear q9 qa qb qp
 go_cut [13] from 72 to 80 (fun v13 wx => ∃ q, v13 = .pointer (some ⟨q, 0, none⟩) ∧ RowC wx q 114 [.string x, .int .i64 (n : Nat), .slice (some ⟨g, 0, none⟩) cnt cnt] ∧ w7.heap.size ≤ q ∧ Below w7.heap.size w7 wx)
 case first =>
  go_region_with (first
   | (go_at_call 87; refine HS.out.1.mono ?_; rintro e w8 ⟨rfl, k6⟩; have H8 := hide k6; clear k6)
   | (go_at_call 87; refine HS.out.2.1.mono ?_; rintro e w8 ⟨rfl, k6⟩; have hc : RowC w8 w7.heap.size 114 [.string ⟨#[]⟩, .int .i64 0, .slice none 0 0] := HS.out.2.2.keep (k6.block _ HS.out.2.2.lt); have z0 := hc.cell (j := 0) (u := .string ⟨#[]⟩) rfl; have z1 := hc.cell (j := 1) (u := .int .i64 0) rfl; have z2 := hc.cell (j := 2) (u := .slice none 0 0) rfl; have y0 := hc.thaw 0; have y1 := hc.thaw 1; have y2 := hc.thaw 2; have H9 := hide2 k6 hc; clear k6 hc))
  all_goals first
   | (go_wp2_with fail; go_meet; case rel => exact put_meetA H8.out)
   | (go_wp2_with fail; go_meet; case rel => exact put_meetB H9.out.1 H9.out.2)
 case rest =>
  obtain ⟨q, rfl, h8, qq, k9⟩ := hcut
  have x0 := h8.cell (j := 0) (u := .string x) rfl
  have x1 := h8.cell (j := 1) (u := .int .i64 (n : Nat)) rfl
  have x2 := h8.cell (j := 2) (u := .slice (some ⟨g, 0, none⟩) cnt cnt) rfl
  obtain ⟨fr, hi⟩ : ∃ fr, (frees (tk A.nb (P ++ allSt xs.os)).1 A.nb).take (cnt + pgn) = fr := ⟨_, rfl⟩
  rw [hi] at HT
  obtain ⟨k0, h6, ki, kj, k5, h7⟩ := HT.out
  have h1 := h7.below k9
  have hj : Below w.heap.size w w7 := k8.out.2.trans (k5.mono k8.out.2.size)
  have h4 : Below w.heap.size w wc := hj.trans (k9.mono hj.size)
  have hp : ar < g ∧ ¬ F.has p A.n g := ⟨by have := k8.out.1.arc.lt; omega, fun e => by have := k8.out.1.vol.arr.has_lt e; omega⟩
  have ka : ¬ F.has p A.n q := fun e => by have := h7.vol.arr.has_lt e; omega
  have qz := h7.nb
  have kx : ∀ c1, Ints (fun k => ar < k ∧ ¬ F.has p A.n k) wc (.slice (some ⟨g, 0, none⟩) cnt c1) (fr.take cnt) := fun c1 => (ints_head k0 h6 hp (by have := HE.out.2.2.2.2; omega)).keep (KpS.of_below k9)
  have kb : ∀ c1, Ints (fun k => ar < k ∧ ¬ F.has p A.n k) wc (.slice (some ⟨g, cnt, none⟩) pgn c1) (fr.drop cnt) := fun c1 => (ints_tail k0 h6 hp (by have := HE.out.2.2.2.2; omega)).keep (KpS.of_below k9)
  have hs : (fr.take cnt).length = cnt := by rw [List.length_take, h6]; omega
  have ky := take_apart h7.disk.nod h7.disk.inb (cnt + pgn)
  rw [hi] at ky
  have hr := h7.par
  obtain ⟨hd, h3, kg, hm⟩ := HD.out
  have kz := writeObject_any h1.arc h1.vol h1.free h1.nar h1.fit h1.disk.n hr.r hr.d1 hr.d hr.l1 hr.l4 hr.g hr.div hr.s h1.disk.wait h1.disk.lost x _ (fr.take cnt) ((kx cnt).widen fun k hk => hk.2) (fun y hy => (ky.2 y (List.mem_append_left _ (List.mem_of_mem_take hy))).2) b off c d (fun w' hO => hd w' ((Outside.of_all h4 _).trans hO)) (by omega) kg (fun k hk => by
   rw [hs, ← HE.out.2.1] at hk
   rw [h3]; exact cnt_room hr.d1 hk)
  rw [hs, h3] at kz
  have H9 := hide10 h1 h4 h8 ka kx kb h6 hi h7 h3
  have qs : 1 ≤ pgn := by rw [← HE.out.2.2.1]; unfold pgOf pgs; omega
  clear h8 k9 k0 h6 ki kj k5 h7 h1 hj h4 hp ka kx kb hs ky hr hd h3 hi HT HS HP H qq
  go_wp2_with fail
  refine kz.mono ?_
  rintro e w10 ⟨rfl, kc, h5⟩
  obtain ⟨h1, h4, h8, ka, qc, qd, h6, hi, h7, h3⟩ := H9.out
  have h9 : RowC w10 q 114 _ := h8.keep (h5.block _ h8.lt ka)
  have x0' := h9.cell (j := 0) (u := .string x) rfl
  have x1' := h9.cell (j := 1) (u := .int .i64 (n : Nat)) rfl
  have x2' := h9.cell (j := 2) (u := .slice (some ⟨g, 0, none⟩) cnt cnt) rfl
  obtain ⟨_, _, _, _, y8⟩ := (h1.arc.keep (h5.block _ h1.arc.lt h1.nar)).cells
  have qe : Outside (F.has p A.n) w w10.drew := (Outside.of_all h4 _).trans (h5.trans (Outside.drew _))
  have q0 : KpS (fun k => ar < k ∧ ¬ F.has p A.n k) wc w10.drew := ⟨h5.size, fun k hk hK => h5.block k hk hK.2⟩
  have q1 : ∀ z ∈ d, z < 256 := by obtain ⟨_, _, _, _, _, q3, _⟩ := HD.out.1 w (Outside.refl _ _); exact q3
  have h2 : PutReady w w10.drew ar v p ps D L G t pg ob P xs A F x d fr g cnt pgn (cap - cnt) := ⟨HE.out.1, qe, kc.keep fun _ _ => rfl, hx, HD.out.2.2.2, by rw [h3]; exact hn, q1, by rw [h3]; exact HE.out.2.1.symm, by rw [h3, HE.out.2.2.2.1]; exact HE.out.2.2.1.symm, hi.symm, h6, HE.out.2.2.2.2, (qc _).keep q0, (qd _).keep q0, qg⟩
  have q2 := put_with h2
  rw [h3, qh.out] at q2
  have HR := hide2 q2 h2
  clear q2 h2 h9 qe q0 h1 h4 h8 ka qc qd h6 hi h7 h3 kc h5 kz x0 x1 x2
  have k4 : ¬ cap = cnt := by omega
  go_wp2_with fail
  go_region_with (first
   | (go_at_call 89; refine HR.out.1.mono ?_; rintro e w11 ⟨u, rfl, kd, ke⟩; have HC := hide (put_commit HR.out.2 kd ke); clear kd ke)
   | (go_at_call 71; refine HC.out.mono ?_; rintro e w12 ⟨rfl, kf⟩; have HF := hide kf; clear kf))
  all_goals (go_wp2; go_ret; exact ⟨rfl, HF.out⟩)
section
def RmPost (w : World) (ar v p ps D L G t : Nat) (xs : Obs) (A : Arr) (F : Foot) (k : Nat) (e : Ending) (w' : World) : Prop :=
 e = .returned .nilIface ∧ ∃ pg ob P' B, Live w' ar v p ps D L G (t + 1) pg ob P' (xs.del k) B F ∧ B.n = A.n ∧ B.nb = A.nb ∧ Outside (fun k => k = ar ∨ F.has p A.n k) w w'
section
variable {w : World} {ar v p ps D L G t : Nat} {pg ob : Value} {P : List Nat} {xs : Obs} {A : Arr} {F : Foot}
theorem Live.del_le (h : Live w ar v p ps D L G t pg ob P xs A F) (k : Nat) : (packL (xs.del k).os).length ≤ 1000000 := Nat.le_trans (packL_del xs k) h.packL_le
theorem rm_take (h : Live w ar v p ps D L G t pg ob P xs A F) (k : Nat) {pgn : Nat} (hp : pgn = pgs D (packL (xs.del k).os).length) :
 Calls Tryz.prog 68 #[.pointer (some ⟨ar, 0, none⟩), .int .i64 (pgn : Nat)] w fun e w' => ∃ g cap, e = .returned (.tuple #[.slice (some ⟨g, 0, none⟩) pgn cap, .bool true]) ∧ w'.ownsRow w.heap.size 3 1 (.slice (some ⟨g, 0, none⟩) pgn cap) pgn (ivs ((frees (tk A.nb (P ++ allSt xs.os)).1 A.nb).take pgn)) ∧ ((frees (tk A.nb (P ++ allSt xs.os)).1 A.nb).take pgn).length = pgn ∧ w.heap.size ≤ g ∧ g < w'.heap.size ∧ Below w.heap.size w w' := by
 have hb := del_blocks h.disk k
 rw [← hp] at hb
 have h6 := h.nb
 have h2 : 1 ≤ pgn := by rw [hp]; unfold pgs; omega
 have h3 := pgs_le (D := D) h.par.d1 (m := (packL (xs.del k).os).length) (by have := h.del_le k; omega)
 rw [← hp] at h3
 have hk := arcTake_any h.arc h.vol.vol h.vol.arr h.fit h.n0 P xs.os h.pgs.any h.cat.any pgn (by omega)
 rw [decide_eq_true hb] at hk
 have h1 : ((frees (tk A.nb (P ++ allSt xs.os)).1 A.nb).take pgn).length = pgn := by rw [List.length_take]; omega
 rw [h1] at hk
 refine hk.mono ?_
 rintro e w' ⟨u, rfl, ho, h4⟩
 rcases ho.2 with ⟨_, h0⟩ | ⟨g, cap, cur, rfl, h5, hg, h7, _⟩
 · omega
 · exact ⟨g, cap, rfl, ho, h1, h5, (Array.getElem?_eq_some_iff.1 hg).1, h4⟩
theorem rm_commit (h : Live w ar v p ps D L G t pg ob P xs A F) (k : Nat) {w2 : World} {u : Value} {pgn g cap : Nat} (hp : pgn = pgs D (packL (xs.del k).os).length) (hC : Cat (fun k => ar < k ∧ ¬ F.has p A.n k) w2 u (xs.del k).os) (hb : Below w.heap.size w w2)
 (hq : Ints (fun k => ar < k ∧ ¬ F.has p A.n k) w2 (.slice (some ⟨g, 0, none⟩) pgn cap) ((frees (tk A.nb (P ++ allSt xs.os)).1 A.nb).take pgn)) (h0 : ((frees (tk A.nb (P ++ allSt xs.os)).1 A.nb).take pgn).length = pgn) (hs : t + 1 ≤ 1000000) :
 Calls Tryz.prog 71 #[.pointer (some ⟨ar, 0, none⟩), u, .slice (some ⟨g, 0, none⟩) pgn cap] w2 (RmPost w ar v p ps D L G t xs A F k) := by
 obtain ⟨oo, oc, rfl, k9, _⟩ := id hC
 have hr := h.par
 have hd := h.disk
 have ha := take_apart hd.nod hd.inb pgn
 obtain ⟨fr, hx⟩ : ∃ fr, (frees (tk A.nb (P ++ allSt xs.os)).1 A.nb).take pgn = fr := ⟨_, rfl⟩
 rw [hx] at hq h0 ha
 have hz : 1 ≤ pgn := by rw [hp]; unfold pgs; omega
 have k0 : fr ≠ [] := fun e => by rw [e] at h0; simp at h0; omega
 have h6 : ∀ b ∈ fr, b < A.nb := fun b k5 => (ha.2 b (List.mem_append_left _ k5)).2
 have hf := h.del_le k
 have hi : fr.length = pgs D (packL (xs.del k).os).length := by rw [h0, hp]
 have h7 := del_sub xs k
 have h8 : ∀ o ∈ (xs.del k).os, o.fit := fun o ho => by
  obtain ⟨y, hy, rfl⟩ := List.mem_map.1 ho
  exact (hd.fits y (h7.subset hy)).fit
 have hg : (xs.del k).os.length ≤ 10000 := by
  have h1 := h7.length_le
  have e : (xs.del k).os.length = (xs.del k).length := by simp [Obs.os]
  have h4 := h.few.1
  have h5 : xs.os.length = xs.length := by simp [Obs.os]
  omega
 have h9 := h.below hb
 have hc := commit_any (w := w2) h9.arc h9.vol h9.free h9.nar h9.fit hd.n hr.r hr.d1 hr.d hr.l1 hr.l4 hr.g hr.div hr.s hd.wait hd.lost (by have := h.turn; omega)
  oo _ oc (packL (xs.del k).os) (packL_lt _) hf (packOk_any hC.any h8 hg) g 0 cap fr (by rw [h0]; exact hq.widen fun k hk => hk.2) k0 h6 (fun j hj => pgs_room hr.d1 (by rw [← hi]; exact hj))
 rw [h0] at hc
 refine hc.mono ?_
 rintro e w3 ⟨rfl, hm, k6, hh⟩
 rw [h0] at hm
 have h2 : Outside (fun k => k = ar ∨ F.has p A.n k) w w3 := (Outside.of_all hb _).trans hh
 have hn : KpS (fun k => ar < k ∧ ¬ F.has p A.n k) w2 w3 := ⟨hh.size, fun k hk hK => hh.block k hk (fun e => e.elim (fun q => by have := hK.1; omega) hK.2)⟩
 have h3 := disk_del hd k hi ha.1 ha.2
 rw [h0] at h3
 have k7 : fr.getD 0 0 < A.nb := by
  rw [getD_in (by rw [h0]; omega)]
  exact h6 _ (List.getElem_mem _)
 have k8 := commit_fit (B := A) (t := t + 1) (f := fr.getD 0 0) (m := (packL (xs.del k).os).length) h.fit hr hd.n (by omega) k7 (by omega) fr (packL (xs.del k).os) pgn
 have he := pagesTo_n A D L G fr (packL (xs.del k).os) pgn
 exact ⟨rfl, _, _, fr, _, live_turn h k6 hm h2 he.1 he.2.1 k8 h3 (hq.keep hn) (hC.keep hn) hs, he.1, he.2.1, h2⟩
end
theorem rm_name (h : Live w ar v p ps D L G t pg ob P xs A F) (x : ByteArray) (hx : namedB x = false) :
 Calls Tryz.prog 46 #[.pointer (some ⟨ar, 0, none⟩), .string x] w (ErPost w 6) := by
 obtain ⟨_, _, _, _, c8⟩ := h.arc.cells
 have h0 := h.find x
 obtain ⟨k, hk⟩ : ∃ k, placeN xs.names x = k := ⟨_, rfl⟩
 obtain ⟨i, hi⟩ : ∃ i, isIn xs.os x = i := ⟨_, rfl⟩
 rw [hk, hi] at h0
 clear hk hi h
 go_enter Tryz.func46, Tryz.ntmps46
 go_wp2_with fail
 refine h0.mono ?_
 rintro e w1 ⟨rfl, hb⟩
 have H := hide hb
 clear hb h0 c8
 go_wp2_with fail
 refine (named_any x w1).mono ?_
 rintro e w2 ⟨rfl, rfl⟩
 rw [hx]
 dsimp only
 go_wp2
 go_ret
 exact ⟨rfl, H.out⟩
theorem rm_missing (h : Live w ar v p ps D L G t pg ob P xs A F) (x : ByteArray) (hx : namedB x = true) (hm : x ∉ xs.names) :
 Calls Tryz.prog 46 #[.pointer (some ⟨ar, 0, none⟩), .string x] w (ErPost w 9) := by
 obtain ⟨_, _, _, _, c8⟩ := h.arc.cells
 have h0 := h.find x
 obtain ⟨k, hk⟩ : ∃ k, placeN xs.names x = k := ⟨_, rfl⟩
 rw [hk, h.notThere hm] at h0
 clear hk h
 go_enter Tryz.func46, Tryz.ntmps46
 go_wp2_with fail
 refine h0.mono ?_
 rintro e w1 ⟨rfl, hb⟩
 have H := hide hb
 clear hb h0 c8
 go_wp2_with fail
 refine (named_any x w1).mono ?_
 rintro e w2 ⟨rfl, rfl⟩
 rw [hx]
 dsimp only
 go_wp2
 go_ret
 exact ⟨rfl, H.out⟩
theorem rm_ok (h : Live w ar v p ps D L G t pg ob P xs A F) (x : ByteArray) (hx : namedB x = true) (hm : x ∈ xs.names) (kd : t + 1 ≤ 1000000) :
 Calls Tryz.prog 46 #[.pointer (some ⟨ar, 0, none⟩), .string x] w (RmPost w ar v p ps D L G t xs A F (placeN xs.names x)) := by
 obtain ⟨_, _, _, _, c8⟩ := h.arc.cells
 have hh := h.find x
 have hi : placeN xs.names x < xs.os.length := by
  obtain ⟨q, _⟩ := placeN_mem h.disk.up hm
  rwa [← names_os, namesOf_len] at q
 obtain ⟨k, hk⟩ : ∃ k, placeN xs.names x = k := ⟨_, rfl⟩
 rw [hk, h.there hm] at hh
 rw [hk] at hi ⊢
 obtain ⟨pgn, h9⟩ : ∃ pgn, pgs D (packL (xs.del k).os).length = pgn := ⟨_, rfl⟩
 obtain ⟨len, ha⟩ : ∃ len, (packL (xs.del k).os).length = len := ⟨_, rfl⟩
 have HE := hide4 h hi h9 ha
 clear hk h hm hi h9 ha
 go_enter Tryz.func46, Tryz.ntmps46
 go_wp2_with fail
 refine hh.mono ?_
 rintro e w1 ⟨rfl, hb⟩
 have H := hide hb
 clear hb hh c8
 go_wp2_with fail
 refine (named_any x w1).mono ?_
 rintro e w2 ⟨rfl, rfl⟩
 rw [hx]
 dsimp only
 have h8 := HE.out.1.below H.out
 obtain ⟨_, _, _, _, d8⟩ := h8.arc.cells
 have hn := catWithout_any h8.cat (by have := h8.few.1; omega) (fun j hj => ⟨by have := h8.arc.lt; omega, fun e => by have := h8.vol.arr.has_lt e; omega⟩) HE.out.2.1
 rw [← os_del] at hn
 have H2 := hide h8
 clear h8
 go_wp2_with fail
 refine hn.mono ?_
 rintro e w3 ⟨u, rfl, hq, hr⟩
 have hc := H2.out.below hr
 have h7 : ∀ o ∈ (xs.del k).os, o.fit := fun o ho => by
  obtain ⟨y, hy, rfl⟩ := List.mem_map.1 ho
  exact (hc.disk.fits y ((del_sub xs k).subset hy)).fit
 have he : (xs.del k).os.length ≤ 10000 := by
  have h1 := (del_sub xs k).length_le
  have e : (xs.del k).os.length = (xs.del k).length := by simp [Obs.os]
  have h4 := hc.few.1
  have h5 : xs.os.length = xs.length := by simp [Obs.os]
  omega
 have hs := length_any hq h7 he
 have ke := hc.del_le k
 rw [HE.out.2.2.2] at hs ke
 have H3 := hide3 hc hq (H.out.trans (hr.mono H.out.size))
 clear hn hq hr hc h7 he d8 H2
 dsimp only
 go_wp2_with fail
 refine hs.mono ?_
 rintro e w4 ⟨rfl, hg⟩
 have h0 := H3.out.1.below hg
 have hz := pagesOf_any h0.arc h0.vol.vol h0.par.d1 (by have := h0.par.d; omega) len (by omega)
 have epg : pgs D len = pgn := by rw [← HE.out.2.2.2]; exact HE.out.2.2.1
 rw [epg] at hz
 have k7 := rm_take h0 k HE.out.2.2.1.symm
 have h6 : Below w.heap.size w w4 := H3.out.2.2.trans (hg.mono H3.out.2.2.size)
 have H4 := hide3 h0 (H3.out.2.1.keep (KpS.of_below hg)) h6
 clear h0 hg h6 epg hs H3
 dsimp only
 go_wp2_with fail
 refine hz.mono ?_
 rintro e w4' ⟨rfl, rfl⟩
 clear hz
 dsimp only
 go_wp2_with fail
 refine k7.mono ?_
 rintro e w5 ⟨g, cap, rfl, k8, k0, kf, kg, k5⟩
 obtain ⟨h0, k9, h6⟩ := H4.out
 have hf : ar < g ∧ ¬ F.has p A.n g := ⟨by have := h0.arc.lt; omega, fun e => by have := h0.vol.arr.has_lt e; omega⟩
 have ka := pgs_le (D := D) h0.par.d1 (m := (packL (xs.del k).os).length) (by have := h0.del_le k; omega)
 rw [HE.out.2.2.1] at ka
 have k6 : pgn ≤ 1000 := by
  have h1 := del_blocks h0.disk k
  rw [HE.out.2.2.1] at h1
  have h2 := frees_count h0.disk.nod h0.disk.inb
  have h3 := h0.nb
  omega
 have kb : Ints (fun k => ar < k ∧ ¬ F.has p A.n k) w5 (.slice (some ⟨g, 0, none⟩) pgn cap) ((frees (tk A.nb (P ++ allSt xs.os)).1 A.nb).take pgn) := by
  have := ints_head (K := fun k => ar < k ∧ ¬ F.has p A.n k) (a := pgn) (b := 0) (c1 := cap) k8 k0 hf (by omega)
  rwa [List.take_of_length_le (by omega)] at this
 have kc := rm_commit HE.out.1 k HE.out.2.2.1.symm (k9.keep (KpS.of_below k5)) (h6.trans (k5.mono h6.size)) kb k0 kd
 clear h0 k9 h6 hf ka k6 kb k7 k8 k0 kf kg k5 H4
 dsimp only
 go_wp2_with fail
 refine kc.mono ?_
 rintro e w6 ⟨rfl, hp⟩
 have HF := hide hp
 clear hp kc
 dsimp only
 go_wp2
 go_ret
 exact ⟨rfl, HF.out⟩
end
section
def DoPost (w : World) (ar v p ps D L G : Nat) (A : Arr) (F : Foot) (Q : Value → Nat → Obs → Arr → World → Prop) (e : Ending) (w' : World) : Prop :=
 ∃ x t' pg' ob' P' xs' B, e = .returned x ∧ noCut x ∧ Live w' ar v p ps D L G t' pg' ob' P' xs' B F ∧ B.n = A.n ∧ B.nb = A.nb ∧ Outside (fun j => j = ar ∨ F.has p A.n j) w w' ∧ Q x t' xs' B w'
def PutQ (D t : Nat) (xs : Obs) (A : Arr) (x : ByteArray) (d : List Nat) (r : Value) (t' : Nat) (xs' : Obs) (_ : Arr) (_ : World) : Prop :=
 (r = errV 6 ∧ t' = t ∧ xs' = xs ∧ namedB x = false) ∨ (r = errV 7 ∧ t' = t ∧ xs' = xs ∧ namedB x = true ∧ 1500 < d.length) ∨ (r = errV 8 ∧ t' = t ∧ xs' = xs ∧ namedB x = true ∧ d.length ≤ 1500 ∧ x ∈ xs.names) ∨
 (r = errV 10 ∧ t' = t ∧ xs' = xs ∧ namedB x = true ∧ d.length ≤ 1500 ∧ x ∉ xs.names ∧ A.nb < (allSt xs.os).length + stOf D d.length + 2 * pgOf D (packL xs.os).length d.length + 2) ∨
 (r = .nilIface ∧ t' = t + 1 ∧ namedB x = true ∧ d.length ≤ 1500 ∧ x ∉ xs.names ∧ ∃ o, o.name = x ∧ xs' = xs.ins (o, d))
def DelQ (t : Nat) (xs : Obs) (x : ByteArray) (r : Value) (t' : Nat) (xs' : Obs) (_ : Arr) (_ : World) : Prop :=
 (r = errV 6 ∧ t' = t ∧ xs' = xs ∧ namedB x = false) ∨ (r = errV 9 ∧ t' = t ∧ xs' = xs ∧ namedB x = true ∧ x ∉ xs.names) ∨ (r = .nilIface ∧ t' = t + 1 ∧ namedB x = true ∧ x ∈ xs.names ∧ xs' = xs.del (placeN xs.names x))
section
variable {w : World} {ar v p ps D L G t : Nat} {pg ob : Value} {P : List Nat} {xs : Obs} {A : Arr} {F : Foot}
theorem do_err (h : Live w ar v p ps D L G t pg ob P xs A F) {n : Int} (hn : n ≠ 13) {Q : Value → Nat → Obs → Arr → World → Prop} {e : Ending} {w' : World} (hp : ErPost w n e w') (hQ : Q (errV n) t xs A w') : DoPost w ar v p ps D L G A F Q e w' := by
 obtain ⟨rfl, hb⟩ := hp
 exact ⟨_, t, pg, ob, P, xs, A, rfl, .inr ⟨n, hn, rfl⟩, h.below hb, rfl, rfl, Outside.of_all hb _, hQ⟩
theorem put_all (h : Live w ar v p ps D L G t pg ob P xs A F) (x : ByteArray) (b off c : Nat) (d : List Nat) (hd : ∀ w', Outside (F.has p A.n) w w' → Bs w' (.slice (some ⟨b, off, none⟩) d.length c) d) (h1 : d.length < c) (h2 : t + 1 ≤ 1000000) :
 Calls Tryz.prog 56 #[.pointer (some ⟨ar, 0, none⟩), .string x, .slice (some ⟨b, off, none⟩) d.length c] w (DoPost w ar v p ps D L G A F (PutQ D t xs A x d)) := by
 cases hx : namedB x with
 | false => exact (refuse_name h x _ hx).mono fun e w' hp => do_err h (by decide) hp (.inl ⟨rfl, rfl, rfl, hx⟩)
 | true =>
  by_cases hl : 1500 < d.length
  · exact (refuse_size h x _ _ _ hx hl).mono fun e w' hp => do_err h (by decide) hp (.inr (.inl ⟨rfl, rfl, rfl, hx, hl⟩))
  · have h0 : d.length ≤ 1500 := by omega
    by_cases hm : x ∈ xs.names
    · exact (refuse_exists h x _ _ _ hx h0 hm).mono fun e w' hp => do_err h (by decide) hp (.inr (.inr (.inl ⟨rfl, rfl, rfl, hx, h0, hm⟩)))
    · by_cases hr : (allSt xs.os).length + stOf D d.length + 2 * pgOf D (packL xs.os).length d.length + 2 ≤ A.nb
      · refine (put_ok h x b off c d hd h1 hx h0 hm hr h2).mono ?_
        rintro e w' ⟨rfl, pg', ob', P', B, o, ho, h3, hn, h4, hO⟩
        exact ⟨_, _, pg', ob', P', _, B, rfl, .inl rfl, h3, hn, h4, hO, .inr (.inr (.inr (.inr ⟨rfl, rfl, hx, h0, hm, o, ho, rfl⟩)))⟩
      · exact (refuse_full h x _ _ _ hx h0 hm (by omega)).mono fun e w' hp => do_err h (by decide) hp (.inr (.inr (.inr (.inl ⟨rfl, rfl, rfl, hx, h0, hm, by omega⟩))))
theorem rm_all (h : Live w ar v p ps D L G t pg ob P xs A F) (x : ByteArray) (h0 : t + 1 ≤ 1000000) :
 Calls Tryz.prog 46 #[.pointer (some ⟨ar, 0, none⟩), .string x] w (DoPost w ar v p ps D L G A F (DelQ t xs x)) := by
 cases hx : namedB x with
 | false => exact (rm_name h x hx).mono fun e w' hp => do_err h (by decide) hp (.inl ⟨rfl, rfl, rfl, hx⟩)
 | true =>
  by_cases hm : x ∈ xs.names
  · refine (rm_ok h x hx hm h0).mono ?_
    rintro e w' ⟨rfl, pg', ob', P', B, h1, hn, h2, hO⟩
    exact ⟨_, _, pg', ob', P', _, B, rfl, .inl rfl, h1, hn, h2, hO, .inr (.inr ⟨rfl, rfl, hx, hm, rfl⟩)⟩
  · exact (rm_missing h x hx hm).mono fun e w' hp => do_err h (by decide) hp (.inr (.inl ⟨rfl, rfl, rfl, hx, hm⟩))
end
theorem DoPost.later {w0 : World} {Q : Value → Nat → Obs → Arr → World → Prop} {e : Ending} {w' : World} (h : DoPost w ar v p ps D L G A F Q e w') (hb : Below w0.heap.size w0 w) : DoPost w0 ar v p ps D L G A F Q e w' := by
 obtain ⟨x, t', pg', ob', P', xs', B, h1, h2, h3, h4, h5, h6, h7⟩ := h
 exact ⟨x, t', pg', ob', P', xs', B, h1, h2, h3, h4, h5, (Outside.of_all hb _).trans h6, h7⟩
theorem aPut (h : Live w ar v p ps D L G t pg ob P xs A F) (x : ByteArray) (b off c : Nat) (d : List Nat) (hd : ∀ w', Outside (F.has p A.n) w w' → Bs w' (.slice (some ⟨b, off, none⟩) d.length c) d) (hc : d.length < c) (he : t + 1 ≤ 1000000) :
 Calls Tryz.prog 37 #[.pointer (some ⟨ar, 0, none⟩), .string x, .slice (some ⟨b, off, none⟩) d.length c] w (DoPost w ar v p ps D L G A F (PutQ D t xs A x d)) := by
 have hg : ∀ (fn : Fn) (first cap : Array Value) (w : World), (Instr.makeFunc fn first cap).run Tryz.prog w = .ok (.func fn first cap) w := fun _ _ _ _ => rfl
 have hf : ∀ (args : Array Value) (w : World), (callFunc 55 args).run Tryz.prog w = .ok (.enter 55 args) w := enters_of Tryz.func55 (by kernel_rfl) rfl
 obtain ⟨n, hn⟩ : ∃ n, d.length = n := ⟨_, rfl⟩
 obtain ⟨w3, h6⟩ : ∃ w3, ((w.alloc (.cells #[.pointer (some ⟨ar, 0, none⟩)] 84)).alloc (.cells #[.string x] 9)).alloc (.cells #[.slice (some ⟨b, off, none⟩) n c] 31) = w3 := ⟨_, rfl⟩
 have h1 : Boxed w3 w.heap.size 84 (.pointer (some ⟨ar, 0, none⟩)) := by rw [← h6]; exact ((Boxed.new w _ _).alloc _).alloc _
 have h2 : Boxed w3 (w.heap.size + 1) 9 (.string x) := by
  have := (Boxed.new (w.alloc (.cells #[.pointer (some ⟨ar, 0, none⟩)] 84)) 9 (.string x)).alloc (.cells #[.slice (some ⟨b, off, none⟩) n c] 31)
  rw [World.size_alloc] at this
  rw [← h6]; exact this
 have h3 : Boxed w3 (w.heap.size + 2) 31 (.slice (some ⟨b, off, none⟩) n c) := by
  have := Boxed.new ((w.alloc (.cells #[.pointer (some ⟨ar, 0, none⟩)] 84)).alloc (.cells #[.string x] 9)) 31 (.slice (some ⟨b, off, none⟩) n c)
  simp only [World.size_alloc] at this
  rw [← h6]; exact this
 have h5 : Below w.heap.size w w3 := by rw [← h6]; exact (((Below.refl _ w).alloc (Nat.le_refl _) _).alloc (by simp) _).alloc (by simp; omega) _
 have h7 : ∀ w1, Below w3.heap.size w3 w1 → Calls Tryz.prog 55 #[.pointer (some ⟨w.heap.size, 0, none⟩), .pointer (some ⟨w.heap.size + 1, 0, none⟩), .pointer (some ⟨w.heap.size + 2, 0, none⟩)] w1 (DoPost w1 ar v p ps D L G A F (PutQ D t xs A x d)) := fun w1 h0 => by
  have g1 := (show Boxed w1 w.heap.size 84 _ from (h0.block _ h1.lt).trans h1).cell
  have g2 := (show Boxed w1 (w.heap.size + 1) 9 _ from (h0.block _ h2.lt).trans h2).cell
  have g3 := (show Boxed w1 (w.heap.size + 2) 31 _ from (h0.block _ h3.lt).trans h3).cell
  have h4 : Below w.heap.size w w1 := h5.trans (h0.mono h5.size)
  have hp := put_all (h.below h4) x b off c d (fun w' hO => hd w' ((Outside.of_all h4 _).trans hO)) hc he
  rw [hn] at hp
  clear h1 h2 h3 h0 h4 h6 h5
  go_enter Tryz.func55, Tryz.ntmps55
  go_wp2_with fail
  refine hp.mono ?_
  rintro e w2 h8
  obtain ⟨r, _, _, _, _, _, _, rfl, _⟩ := id h8
  have H := hide h8
  clear h8 hp
  go_wp2
  go_ret
  exact H.out
 have ha := arcDo (h.below h5) 55 #[] #[.pointer (some ⟨w.heap.size, 0, none⟩), .pointer (some ⟨w.heap.size + 1, 0, none⟩), .pointer (some ⟨w.heap.size + 2, 0, none⟩)] hf (PutQ D t xs A x d) (fun _ _ _ _ _ _ _ q => q) (fun w1 h0 _ => h7 w1 h0)
 have c1 := h1.cell
 rw [hn]
 have H := hide2 ha h5
 clear ha h5 h7 h1 h2 h3 h hd hn
 go_enter Tryz.func37, Tryz.ntmps37
 go_wp2_with fail
 refine H.out.1.mono ?_
 rintro e w8 h9
 obtain ⟨r, _, _, _, _, _, _, rfl, _⟩ := id h9
 have H8 := hide (DoPost.later h9 H.out.2)
 clear h9
 go_wp2
 go_ret
 exact H8.out
theorem aDelete (h : Live w ar v p ps D L G t pg ob P xs A F) (x : ByteArray) (ha : t + 1 ≤ 1000000) :
 Calls Tryz.prog 32 #[.pointer (some ⟨ar, 0, none⟩), .string x] w (DoPost w ar v p ps D L G A F (DelQ t xs x)) := by
 have he : ∀ (fn : Fn) (first cap : Array Value) (w : World), (Instr.makeFunc fn first cap).run Tryz.prog w = .ok (.func fn first cap) w := fun _ _ _ _ => rfl
 have hc : ∀ (args : Array Value) (w : World), (callFunc 45 args).run Tryz.prog w = .ok (.enter 45 args) w := enters_of Tryz.func45 (by kernel_rfl) rfl
 obtain ⟨w3, h6⟩ : ∃ w3, (w.alloc (.cells #[.pointer (some ⟨ar, 0, none⟩)] 84)).alloc (.cells #[.string x] 9) = w3 := ⟨_, rfl⟩
 have h1 : Boxed w3 w.heap.size 84 (.pointer (some ⟨ar, 0, none⟩)) := by rw [← h6]; exact (Boxed.new w _ _).alloc _
 have h2 : Boxed w3 (w.heap.size + 1) 9 (.string x) := by
  have := Boxed.new (w.alloc (.cells #[.pointer (some ⟨ar, 0, none⟩)] 84)) 9 (.string x)
  rw [World.size_alloc] at this
  rw [← h6]; exact this
 have h0 : Below w.heap.size w w3 := by rw [← h6]; exact ((Below.refl _ w).alloc (Nat.le_refl _) _).alloc (by simp) _
 have h4 : ∀ w1, Below w3.heap.size w3 w1 → Calls Tryz.prog 45 #[.pointer (some ⟨w.heap.size, 0, none⟩), .pointer (some ⟨w.heap.size + 1, 0, none⟩)] w1 (DoPost w1 ar v p ps D L G A F (DelQ t xs x)) := fun w1 h3 => by
  have g1 := (show Boxed w1 w.heap.size 84 _ from (h3.block _ h1.lt).trans h1).cell
  have g2 := (show Boxed w1 (w.heap.size + 1) 9 _ from (h3.block _ h2.lt).trans h2).cell
  have h5 : Below w.heap.size w w1 := h0.trans (h3.mono h0.size)
  have hp := rm_all (h.below h5) x ha
  clear h1 h2 h3 h5 h6 h0
  go_enter Tryz.func45, Tryz.ntmps45
  go_wp2_with fail
  refine hp.mono ?_
  rintro e w2 h7
  obtain ⟨r, _, _, _, _, _, _, rfl, _⟩ := id h7
  have H := hide h7
  clear h7 hp
  go_wp2
  go_ret
  exact H.out
 have h9 := arcDo (h.below h0) 45 #[] #[.pointer (some ⟨w.heap.size, 0, none⟩), .pointer (some ⟨w.heap.size + 1, 0, none⟩)] hc (DelQ t xs x) (fun _ _ _ _ _ _ _ q => q) (fun w1 h3 _ => h4 w1 h3)
 have c1 := h1.cell
 have H := hide2 h9 h0
 clear h9 h0 h4 h1 h2 h
 go_enter Tryz.func32, Tryz.ntmps32
 go_wp2_with fail
 refine H.out.1.mono ?_
 rintro e w8 h8
 obtain ⟨r, _, _, _, _, _, _, rfl, _⟩ := id h8
 have H8 := hide (DoPost.later h8 H.out.2)
 clear h8
 go_wp2
 go_ret
 exact H8.out
theorem sPut (hs : Boxed w sa 86 (.pointer (some ⟨ar, 0, none⟩))) (h : Live w ar v p ps D L G t pg ob P xs A F) (x : ByteArray) (b off c : Nat) (d : List Nat) (hd : ∀ w', Outside (F.has p A.n) w w' → Bs w' (.slice (some ⟨b, off, none⟩) d.length c) d) (h1 : d.length < c) (h2 : t + 1 ≤ 1000000) :
 Calls Tryz.prog 26 #[.pointer (some ⟨sa, 0, none⟩), .string x, .slice (some ⟨b, off, none⟩) d.length c] w (DoPost w ar v p ps D L G A F (PutQ D t xs A x d)) := by
 have cs := hs.cell
 have hc := aPut h x b off c d hd h1 h2
 clear hs h hd
 go_enter Tryz.func26, Tryz.ntmps26
 go_wp2_with fail
 refine hc.mono ?_
 rintro e w8 h0
 obtain ⟨r, _, _, _, _, _, _, rfl, _⟩ := id h0
 have H8 := hide h0
 clear h0 hc
 go_wp2
 go_ret
 exact H8.out
theorem sDelete (hs : Boxed w sa 86 (.pointer (some ⟨ar, 0, none⟩))) (h : Live w ar v p ps D L G t pg ob P xs A F) (x : ByteArray) (h1 : t + 1 ≤ 1000000) :
 Calls Tryz.prog 17 #[.pointer (some ⟨sa, 0, none⟩), .string x] w (DoPost w ar v p ps D L G A F (DelQ t xs x)) := by
 have cs := hs.cell
 have hc := aDelete h x h1
 clear hs h
 go_enter Tryz.func17, Tryz.ntmps17
 go_wp2_with fail
 refine hc.mono ?_
 rintro e w8 h0
 obtain ⟨r, _, _, _, _, _, _, rfl, _⟩ := id h0
 have H8 := hide h0
 clear h0 hc
 go_wp2
 go_ret
 exact H8.out
end
end Go.Proofs.YtpaemkanfnddoaaGreatDoor
