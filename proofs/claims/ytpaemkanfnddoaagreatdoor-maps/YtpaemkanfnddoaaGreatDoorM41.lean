import Derived.Test.YtpaemkanfnddoaaGreatDoorM40
import Derived.Deep.CutRange
set_option maxRecDepth 100000
set_option maxHeartbeats 8000000
namespace Go.Proofs.YtpaemkanfnddoaaGreatDoor
open Go.RowKit Go.Deep
variable {A : Arr} {F : Foot} {cache : Int} {l P : List Nat} {v ar p ps D L G t n r g N y m wb blocks : Nat} {xs : Obs} {pg ob u u2 s out want : Value} {w w' w6 : World}
section
open Gf
theorem bytes_src {v : Value} (h : Bs w v l) : Src Tryz.prog 1 31 v l.length (bts l) w := by
 obtain ⟨ao, c, rfl, h1, h2, h3, h4⟩ := h
 have h0 : ∀ u ∈ bts l, u.oneCell' = true := fun u hu => by unfold bts at hu; rw [List.mem_map] at hu; obtain ⟨x, _, rfl⟩ := hu; rfl
 by_cases hl : l = []
 · subst hl
   cases ao with
   | none => exact Src.ofNil w Tryz.underlying31 c
   | some ad => exact Src.ofSlice w Tryz.underlying31 ad 0 c [] rfl (fun j u hj => by simp at hj) (fun u hu => by simp at hu)
 · obtain ⟨b, off, rfl, hc⟩ := h4 hl
   refine Src.ofSlice w Tryz.underlying31 ⟨b, off, none⟩ l.length c (bts l) (by rw [bts_len, Nat.mul_one]) (fun j u hj => ?_) h0
   rw [Addr.add_mid]
   have h5 : j < l.length := by obtain ⟨q, _⟩ := List.getElem?_eq_some_iff.1 hj; rwa [bts_len] at q
   rw [hc j h5, ← hj]
   unfold bts
   rw [List.getElem?_map, List.getElem?_eq_getElem h5, List.getD_eq_getElem?_getD, List.getElem?_eq_getElem h5]; rfl
theorem Live.reads (h : Live w ar v p ps D L G t pg ob P xs A F) (hO : Outside (F.has p A.n) w w') (rs : Nat → Int) (hA : ArrAt w' p (A.rd rs) F) : Live w' ar v p ps D L G t pg ob P xs (A.rd rs) F := by
 have hK : KpS (fun k => ar < k ∧ ¬ F.has p A.n k) w w' := ⟨hO.size, fun k hk h0 => hO.block k hk h0.2⟩
 exact ⟨h.arc.keep (hO.block _ h.arc.lt h.nar), h.vol.turn h.free hO hA, h.free, h.nar, h.vne, h.arK, ⟨h.fit.n, h.fit.nb, h.fit.len, h.fit.byt⟩, h.par, h.disk.congr rfl rfl rfl (fun _ => rfl) (fun _ _ => rfl) (fun _ _ _ => rfl), h.pgs.keep hK, h.cat.keep hK, h.nb, h.turn⟩
def ErPost2 (w : World) (n : Int) (e : Ending) (w' : World) : Prop := e = .returned (.tuple #[.slice none 0 0, errV n]) ∧ Below w.heap.size w w'
theorem get_name (h : Live w ar v p ps D L G t pg ob P xs A F) (x : ByteArray) (hx : namedB x = false) :
 Calls Tryz.prog 40 #[.pointer (some ⟨ar, 0, none⟩), .string x] w (ErPost2 w 6) := by
 obtain ⟨_, _, _, _, c8⟩ := h.arc.cells
 have h0 := h.find x
 obtain ⟨k, hk⟩ : ∃ k, placeN xs.names x = k := ⟨_, rfl⟩
 obtain ⟨i, hi⟩ : ∃ i, isIn xs.os x = i := ⟨_, rfl⟩
 rw [hk, hi] at h0
 clear hk hi h
 go_enter Tryz.func40, Tryz.ntmps40
 go_wp2_with fail
 refine h0.mono ?_
 rintro e w1 ⟨rfl, hb⟩
 have H := hide hb
 clear hb h0 c8
 go_wp2_with fail
 refine (named_any x w1).mono ?_
 rintro e w2 ⟨rfl, rfl⟩
 rw [hx]
 dsimp only
 go_wp2
 go_ret2
 exact ⟨rfl, H.out⟩
theorem get_missing (h : Live w ar v p ps D L G t pg ob P xs A F) (x : ByteArray) (hx : namedB x = true) (hm : x ∉ xs.names) :
 Calls Tryz.prog 40 #[.pointer (some ⟨ar, 0, none⟩), .string x] w (ErPost2 w 9) := by
 obtain ⟨_, _, _, _, c8⟩ := h.arc.cells
 have h0 := h.find x
 obtain ⟨k, hk⟩ : ∃ k, placeN xs.names x = k := ⟨_, rfl⟩
 rw [hk, h.notThere hm] at h0
 clear hk h
 go_enter Tryz.func40, Tryz.ntmps40
 go_wp2_with fail
 refine h0.mono ?_
 rintro e w1 ⟨rfl, hb⟩
 have H := hide hb
 clear hb h0 c8
 go_wp2_with fail
 refine (named_any x w1).mono ?_
 rintro e w2 ⟨rfl, rfl⟩
 rw [hx]
 dsimp only
 go_wp2
 go_ret2
 exact ⟨rfl, H.out⟩
structure GtI (w : World) (q v p r g N sz n : Nat) (A : Arr) (F : Foot) (d : List Nat) (cs : List Value) (k : Nat) (u : Value) (wr : World) : Prop where
 pk : wr.ownsRow w.heap.size 5 1 u (min (k * sz) n) (bts (d.take (k * sz)))
 rd : ∃ b gone sp, RdAt wr r v b g N gone sp
 row : ∃ f, wr.rowIs g 31 N f
 arr : ∃ rs, ArrAt wr p (A.rd rs) F
 out : Outside (F.has p A.n) w wr
 box : RowC wr q 114 cs
def GtR (w : World) (q v p r g N sz n : Nat) (A : Arr) (F : Foot) (d : List Nat) (cs : List Value) (K : Nat) (u i : Value) (wr : World) : Prop := ∃ k : Nat, k ≤ K ∧ i = .int .i64 (k : Nat) ∧ GtI w q v p r g N sz n A F d cs k u wr
theorem cnt_end (hD : 1 ≤ D) : n ≤ stOf D n * (D * 44) := by
 unfold stOf
 obtain ⟨q, hq⟩ : ∃ q, D * 44 = q := ⟨_, rfl⟩
 rw [hq]
 have h0 : 0 < q := by omega
 have h := Nat.lt_mul_div_succ (n + q - 1) h0
 obtain ⟨c, hc⟩ : ∃ c, (n + q - 1) / q = c := ⟨_, rfl⟩
 rw [hc] at h ⊢
 have h1 : q * (c + 1) = c * q + q := by rw [Nat.mul_add, Nat.mul_one, Nat.mul_comm]
 have h2 : c * q ≤ max 1 c * q := Nat.mul_le_mul_right _ (Nat.le_max_right _ _)
 omega
theorem gt_own {b0 gone sp ks base : Nat} {f0 : Nat → Value} {ch : List Nat} (h0 : w.ownsRow base 5 1 u ks (bts l)) (h4 : RdAt w r v b0 g N gone sp) (h3 : w.rowIs g 31 N f0) (hD : DtPost w r v y g N p A F ch m u2 w6) (h5 : ∀ k, F.has p A.n k → k < base) : w6.ownsRow base 5 1 u ks (bts l) := own_keepO h0 hD.out fun q hq h => by
 rcases h with h | h | h
 · subst h; exact own_apart h0 h4 (by decide) hq
 · subst h; obtain ⟨cs, h6, _⟩ := h3; exact own_apart h0 h6 (by decide) hq
 · have h1 := h5 q h; have h2 := own_ge h0 hq; omega
theorem gt_step {wr w7 : World} {q sz k : Nat} {d : List Nat} {cs : List Value} {rs : Nat → Int} {v7 : Value} (hI : GtI w q v p r g N sz n A F d cs k u wr) (hD : DtPost wr.drew r v y g N p (A.rd rs) F ((d.drop (k * sz)).take sz) m u2 w6)
 (h9 : w7.ownsRow w.heap.size 5 1 v7 (k * sz + ((d.drop (k * sz)).take sz).length) (bts (d.take (k * sz)) ++ bts ((d.drop (k * sz)).take sz))) (h5 : w6.grownBy w7 u.ownBlock) (h0 : w6.ownsRow w.heap.size 5 1 u (k * sz) (bts (d.take (k * sz)))) (h8 : ∀ k, F.has p A.n k → k < w.heap.size) (hf : k * sz ≤ n) (hh : d.length = n) (hq : w.heap.size ≤ q) (ha : q ≠ r) (hc : q ≠ g) (hr : w.heap.size ≤ r) (hg : w.heap.size ≤ g) : GtI w q v p r g N sz n A F d cs (k + 1) v7 w7 := by
 have hz := hD.out.size
 have h4 : ∀ {j : Nat} {cs : Array Value} {T : TypeId}, w6.heap[j]? = some (.cells cs T (0, 0)) → 5 ≠ T → w7.heap[j]? = w6.heap[j]? := by
  intro j cs T hj h2
  exact h5.block j (Array.getElem?_eq_some_iff.1 hj).1 (fun e => own_apart h0 hj h2 e.symm)
 have hi : w.heap.size ≤ w6.heap.size := Nat.le_trans hI.out.size hz
 have h6 : ∀ j, j < w.heap.size → w7.heap[j]? = w6.heap[j]? := fun j hj => h5.block j (by omega) (fun e => by have := own_ge h0 e.symm; omega)
 have he : Outside (F.has p A.n) w w6 := (hI.out.trans (Outside.drew _)).later (T := fun j => j = r ∨ j = g ∨ F.has p A.n j) hD.out fun j hj h => by
  rcases h with h | h | h
  · omega
  · omega
  · exact h
 have h7 : (k + 1) * sz = k * sz + sz := Nat.succ_mul k sz
 have h3 : RowC w6 q 114 cs := hI.box.keep (hD.out.block _ hI.box.lt (fun h => by
  rcases h with h | h | h
  · exact ha h
  · exact hc h
  · have h1 := h8 _ h; omega))
 refine ⟨?_, ⟨y, 0, 0, hD.rd.keep (h4 hD.rd (by decide))⟩, ?_, ⟨_, hD.arr.keep fun j hj => h6 j (h8 j hj)⟩, ?_, h3.keep (h4 h3 (by decide))⟩
 · rw [h7, List.take_add, bts_append, show min (k * sz + sz) n = k * sz + ((d.drop (k * sz)).take sz).length by rw [List.length_take, List.length_drop]; omega]
   exact h9
 · obtain ⟨f, cs, h1, h2⟩ := hD.row
   exact ⟨f, cs, (h4 h1 (by decide)).trans h1, h2⟩
 · exact he.later (T := fun j => w.heap.size ≤ j) ⟨h5.os, h5.tape, h5.output, h5.size, fun j _ hk => h6 j (by omega)⟩ (fun j h1 h2 => by omega)
def GtPost (w : World) (ar v p ps D L G t : Nat) (pg ob : Value) (P : List Nat) (xs : Obs) (A : Arr) (F : Foot) (d : List Nat) (e : Ending) (w' : World) : Prop :=
 ∃ u rs, e = .returned (.tuple #[u, .nilIface]) ∧ w'.ownsRow w.heap.size 5 1 u d.length (bts d) ∧ Live w' ar v p ps D L G t pg ob P xs (A.rd rs) F ∧ Outside (F.has p A.n) w w'
theorem get_ok (h : Live w ar v p ps D L G t pg ob P xs A F) (x : ByteArray) (hx : namedB x = true) (k0 : Nat) (qa : k0 < xs.length) (hm : xs[k0].1.name = x) :
 Calls Tryz.prog 40 #[.pointer (some ⟨ar, 0, none⟩), .string x] w (GtPost w ar v p ps D L G t pg ob P xs A F xs[k0].2) := by
 obtain ⟨_, _, _, _, c8⟩ := h.arc.cells
 have km := h.find x
 have qx : xs.names.length = xs.length := by rw [← names_os, namesOf_len]; simp [Obs.os]
 have kp : xs.names[k0]'(by omega) = x := by simp [Obs.names, hm, namesOf, Obs.os]
 have kc : x ∈ xs.names := by rw [← kp]; exact List.getElem_mem _
 have qb : placeN xs.names x = k0 := placeN_there h.disk.up (by omega) kp
 rw [qb, h.there kc] at km
 have k6 := h.disk.fits _ (List.getElem_mem qa)
 have h9 := h.disk.held _ (List.getElem_mem qa)
 obtain ⟨oo, oc, rfl, qy, _⟩ := id h.cat
 have kr : xs.os.length = xs.length := by simp [Obs.os]
 have k7 : ∀ hh : k0 < xs.os.length, xs.os[k0] = xs[k0].1 := fun hh => by simp [Obs.os]
 obtain ⟨X, hX⟩ : ∃ X, xs[k0] = X := ⟨_, rfl⟩
 rw [hX] at k6 h9 hm k7 ⊢
 obtain ⟨nn, qc⟩ : ∃ nn, xs.os.length = nn := ⟨_, rfl⟩
 have qd : X ∈ xs := by rw [← hX]; exact List.getElem_mem _
 have HE := hide6 h k6 h9 k7 qc qd
 have kv : k0 < nn := by omega
 have qz : (k0 : Int) < (nn : Int) := by omega
 rw [qc] at km c8
 clear h qx kp kc qb k6 h9 k7 kr qy hX qd
 go_enter Tryz.func40, Tryz.ntmps40
 go_wp2_with fail
 refine km.mono ?_
 rintro e w1 ⟨rfl, hb⟩
 have H := hide hb
 clear hb km c8
 go_wp2_with fail
 refine (named_any x w1).mono ?_
 rintro e w2 ⟨rfl, rfl⟩
 rw [hx]
 dsimp only
 have h0 := HE.out.1.below H.out
 obtain ⟨d0, _, _, _, d8⟩ := h0.arc.cells
 rw [HE.out.2.2.2.2.1] at d8
 obtain ⟨ob0, off, sv, rfl, x0, x1, r1, r2, r3, r4⟩ := h0.cat.at' (k := k0) (by rw [HE.out.2.2.2.2.1]; exact kv)
 rw [HE.out.2.2.2.1 _] at r1 r2 r4
 rw [hm] at r1
 obtain ⟨n, hn⟩ : ∃ n, X.1.size = n := ⟨_, rfl⟩
 rw [hn] at r2
 obtain ⟨sa, sc, rfl, x3, _⟩ := id r4
 obtain ⟨S, hS⟩ : ∃ S, X.1.stripes = S := ⟨_, rfl⟩
 rw [hS] at r3 r4 x3
 have H2 := hide4 h0 r4 hn hS
 clear h0 r4 hn hS
 have kx : Below w2.heap.size w2 (w2.alloc (.cells #[.string x, .int .i64 (n : Nat), .slice sa S.length sc] 114)) := (Below.refl _ w2).alloc (Nat.le_refl _) _
 have kn : RowC (w2.alloc (.cells #[.string x, .int .i64 (n : Nat), .slice sa S.length sc] 114)) w2.heap.size 114 [.string x, .int .i64 (n : Nat), .slice sa S.length sc] := heap_alloc_last w2 _
 have ky : (w2.alloc (.cells #[.string x, .int .i64 (n : Nat), .slice sa S.length sc] 114)).heap.size = w2.heap.size + 1 := by simp
 have x4 : n ≤ 1500 := by rw [← H2.out.2.2.1]; exact HE.out.2.1.fit.size
 obtain ⟨w3, x5⟩ : ∃ w3, w2.alloc (.cells #[.string x, .int .i64 (n : Nat), .slice sa S.length sc] 114) = w3 := ⟨_, rfl⟩
 rw [x5] at kx kn ky
 have y1 := kn.cell (j := 1) (u := .int .i64 (n : Nat)) rfl
 obtain ⟨ib, qe, kd, ke, kf⟩ := info_parts Tryz.infoByteP
 have H3 := hide3 kx kn ky
 clear kx kn ky
 go_wp2_with (at_make; refine wpList_make_own w3 rfl (.const (.int .i64 0)) (.tmp 41) 31 rfl w2.heap.size 5 ib (.int .u8 0) 1 Tryz.underlying31 qe kd ke .i64 .i64 _ n (by rfl) (by rfl) rfl (by rw [kf]; omega) (by unfold maxLen; omega) (by exact H3.out.1.size) ?_; intro w4 qf kz; have q0 : Below w2.heap.size w2 w4 := H3.out.1.grown kz H3.out.1.size (fun k e => by cases e); have e0 := (q0.cell (p := ⟨ar, 0, none⟩) H2.out.1.arc.lt).trans d0; have H4 := hide3 qf kz q0; clear qf kz q0)
 have k8 := H2.out.1.below H4.out.2.2
 have hp := reader_at k8.vol.vol k8.par.d k8.par.l4 k8.par.g k8.disk.n
 have q1 := hide k8
 clear k8 d8 r1 r2 r3 y1
 refine hp.mono ?_
 rintro e w5 ⟨rfl, q2, ha, kg⟩
 have qg := q1.out.below kg
 have q3 : RowC w4 w2.heap.size 114 _ := H3.out.2.1.keep (H4.out.2.1.block _ H3.out.2.1.lt (by simp))
 have hc : RowC w5 w2.heap.size 114 _ := q3.keep (kg.block _ q3.lt)
 have x2 := hc.cell (j := 2) (u := .slice sa S.length sc) rfl
 have kh : Below w2.heap.size w2 w5 := H4.out.2.2.trans (kg.mono H4.out.2.2.size)
 obtain ⟨d, hd⟩ : ∃ d, X.2 = d := ⟨_, rfl⟩
 obtain ⟨sz, hk⟩ : ∃ sz, D * 44 = sz := ⟨_, rfl⟩
 have k9 : d.length = n := by rw [← hd, HE.out.2.1.len, H2.out.2.2.1]
 have ka : S.length = stOf D n := by rw [← H2.out.2.2.2, HE.out.2.1.st, H2.out.2.2.1]; rfl
 obtain ⟨r, hr⟩ : ∃ r, w4.heap.size + 2 = r := ⟨_, rfl⟩
 obtain ⟨g, hg⟩ : ∃ g, w4.heap.size + 1 = g := ⟨_, rfl⟩
 have xg := H4.out.2.2.size
 rw [hr, hg] at q2
 rw [hg] at ha
 have qh : GtI w2 w2.heap.size v p r g A.n sz n A F d [.string x, .int .i64 (n : Nat), .slice sa S.length sc] 0 (.slice (some ⟨w3.heap.size, 0, none⟩) 0 n) w5 :=
  ⟨by rw [Nat.zero_mul, Nat.zero_min]; exact ownsRow_below H4.out.1 kg, ⟨_, _, _, q2⟩, ⟨_, ha⟩, ⟨A.reads, qg.vol.arr⟩, Outside.of_all kh _, hc⟩
 have H5 := hide5 qh hd hk k9 ka
 have x6 : r ≠ g := by omega
 have xh : w2.heap.size < g := by omega
 have xi : w2.heap.size < r := by omega
 rw [hr]
 clear qh hd hk k9 ka q2 ha hc q3 qg kh hp kg hr hg
 have x7 : 44 ≤ sz ∧ sz ≤ 528 := by rw [← H5.out.2.2.1]; have := q1.out.par.d1; have := q1.out.par.d; omega
 go_wp2_with fail
 go_loopw [9, 51] (fun u i wr => GtR w2 w2.heap.size v p r g A.n sz n A F d [.string x, .int .i64 (n : Nat), .slice sa S.length sc] S.length u i wr) (fun _ i _ => S.length - (intOf i).toNat)
 case atStart => exact ⟨0, Nat.zero_le _, rfl, H5.out.1⟩
 case round =>
  clear x2 e0
  obtain ⟨k, xj, rfl, hI⟩ := hrel
  by_cases kb : k < S.length
  · obtain ⟨h8, ⟨b0, gone, sp, hp⟩, ⟨f0, he⟩, ⟨rs, hf⟩, hO, ki⟩ := id hI
    obtain ⟨_, hd, hk, k9, ka⟩ := H5.out
    obtain ⟨h0, qi, x8, ko⟩ := H2.out
    have hr := h0.par
    have q4 : k * sz ≤ n := by rw [← hk]; exact cnt_room hr.d1 (by omega)
    have hq : ∀ j, F.has p A.n j → j < w2.heap.size := fun j hj => h0.vol.arr.has_lt hj
    rw [Nat.min_eq_left q4] at h8
    obtain ⟨pa, pc, rfl⟩ := own_slice h8
    obtain ⟨ks, h6⟩ : ∃ ks, k * sz = ks := ⟨_, rfl⟩
    have qj : KpS (fun k => ar < k ∧ ¬ F.has p A.n k) w2 wr := ⟨hO.size, fun j hj hK => hO.block j hj hK.2⟩
    obtain ⟨sb, so, sc', e1, qk⟩ := ints_at (qi.keep qj) (fun e => by rw [e] at kb; simp at kb)
    simp only [Value.slice.injEq] at e1
    obtain ⟨rfl, _, rfl⟩ := e1
    have g1 := qk k kb
    obtain ⟨y, hy⟩ : ∃ y, S[k] = y := ⟨_, rfl⟩
    rw [hy] at g1
    have x9 : y < A.nb := by
     refine (h0.disk.inb y (List.mem_append_right _ ?_)).2
     unfold allSt
     refine List.mem_flatMap.2 ⟨X.1, List.mem_map_of_mem HE.out.2.2.2.2.2, ?_⟩
     rw [ko, ← hy]; exact List.getElem_mem kb
    have qm : Vol wr v p D L G ps 0 (A.rd rs) F := h0.vol.turn h0.free hO hf
    have q5 : Vol wr.drew v p D L G ps 0 (A.rd rs) F := qm.below ((Below.refl _ wr).drew) (Nat.le_refl _)
    obtain ⟨ca, _⟩ := (h0.arc.keep (hO.block _ h0.arc.lt h0.nar)).cells
    have cz := ki.cell (j := 1) (u := .int .i64 (n : Nat)) rfl
    have q6 := stripeSize_any q5.vol (by have := hr.d; omega)
    rw [hk] at q6
    obtain ⟨m1, xa⟩ : ∃ m1, min (n - ks) sz = m1 := ⟨_, rfl⟩
    have xb : ∀ ats ty w, (Builtin.min_ ats ty #[.int .i64 ((n : Int) - (ks : Int)), .int .i64 (sz : Nat)]).run Tryz.prog w = .ok (.int .i64 (m1 : Nat)) w := fun ats ty w => by
     rw [run_min_int]
     by_cases h1 : ((sz : Nat) : Int) < (n : Int) - (ks : Int)
     · rw [if_pos h1, show m1 = sz by omega]
     · rw [if_neg h1, show (m1 : Int) = (n : Int) - (ks : Int) by omega]
    have qn : chunkB D d k = (d.drop ks).take sz := by unfold chunkB; rw [hk, h6]
    have h7 : ((d.drop ks).take sz).length = m1 := by rw [List.length_take, List.length_drop]; omega
    have kj : ∀ z ∈ (d.drop ks).take sz, z < 256 := fun z hz => HE.out.2.1.byt z (by rw [hd]; exact List.mem_of_mem_drop (List.mem_of_mem_take hz))
    have xc := h0.disk.n
    have qo : (m1 + 43) / 44 ≤ D := by omega
    have xd := hr.d
    have q7 := data_ok (b := y) q5 h0.free ⟨h0.fit.n, h0.fit.nb, h0.fit.len, h0.fit.byt⟩ (hp.keep rfl) (he.of_block rfl) h0.n0 x9 (by have := h0.disk.wait; show A.wait ≠ 0; omega) m1 ((m1 + 43) / 44) rfl (by omega) (by show (m1 + 43) / 44 ≤ A.n; omega) (by omega) (fun i _ => h0.disk.lost i) (fun i _ => h0.disk.bad i y) (fun i => (stripeL D L G ((d.drop ks).take sz)).getD i [])
     (fun i hi => ?ok) (fun i hi => ?bl) (fun e => by have := hq _ e; omega) (fun e => by have := hq _ e; omega) x6 (fun e => by have := h0.vol.vol.lt; omega) (fun e => by have := h0.vol.vol.lt; omega) (by have := h0.vol.room; omega) (by have := h0.vol.room; omega)
    case ok =>
     have qp : i < (stripeL D L G ((d.drop ks).take sz)).length := by rw [stripeL_len]; omega
     have e : (stripeL D L G ((d.drop ks).take sz)).getD i [] = (stripeL D L G ((d.drop ks).take sz))[i] := by simp [qp]
     rw [e]; exact stripeL_row hr.d hr.g _ i qp
    case bl =>
     have hh := HE.out.2.2.1 k (by rw [ko]; exact kb) i (by omega)
     rw [ko, hd, getD_in kb, hy, qn] at hh
     exact hh
    rw [data_take rfl qo (by rw [h7]; omega) kj (by rw [h7]; exact Nat.le_refl _), List.take_of_length_le (by rw [h7]; exact Nat.le_refl _)] at q7
    have HR := hide9 hI hp he h8 q7 q6 hq h7 h6
    rw [h6] at q4 h8 ⊢
    have xe : m1 ≤ 528 := by omega
    have xk : IntKind.i64.wrap ((k : Int) + 1) = (k : Int) + 1 := by rw [IntKind.wrap_i64]; omega
    have xm : IntKind.i64.wrap ((n : Int) - (ks : Int)) = (n : Int) - (ks : Int) := by rw [IntKind.wrap_i64]; omega
    clear hI hp he h8 q7 q6 hq h7 h6 qn kj qm q5 qj qk hy hO ki hf hd hk k9 ka h0 qi x8 ko hr xa qo xc
    go_wp2
    go_region_with (first
     | (go_at_call 63; refine HR.out.2.2.2.2.2.1.mono ?_; rintro e wq ⟨rfl, rfl⟩)
     | (go_at_call 62; refine HR.out.2.2.2.2.1.mono ?_; rintro e w6 ⟨u2, rfl, qq⟩; have H6 := hide qq; clear qq))
    all_goals (
     have hs : w6.ownsRow w2.heap.size 5 1 (.slice pa ks pc) ks (bts (d.take ks)) := by
      obtain ⟨_, hp, he, h8, _, _, hq, _, h6⟩ := HR.out
      rw [h6] at h8
      exact gt_own (ownsRow_below h8 ((Below.refl _ wr).drew)) (hp.keep rfl) (he.of_block rfl) H6.out hq
     have k5 : Src Tryz.prog 1 31 u2 m1 (bts ((d.drop ks).take sz)) w6 := by
      have := bytes_src H6.out.bytes
      rwa [HR.out.2.2.2.2.2.2.2.1] at this
     have HO := hide3 hs k5 (Nat.le_trans HR.out.1.out.size H6.out.out.size)
     clear hs k5
     go_wp2_with (at_builtin; refine wpList_append_from _ rfl (.tmp 75) (.tmp 76) 31 31 rfl w2.heap.size 5 ib (.int .u8 0) 1 1 Tryz.underlying31 qe kd ke kf rfl (.slice pa ks pc) ks (bts (d.take ks)) (by rfl) (by exact HO.out.1) _ (by rfl) m1 (bts ((d.drop ks).take sz)) (by exact HO.out.2.1) (by unfold maxLen; omega) (by omega) (by exact HO.out.2.2) ?_; intro v7 w7 qs qv q8; have H7 := hide2 qs qv; clear qs qv q8)
     go_roundw
     case rel =>
      obtain ⟨hI, _, _, _, _, _, hq, h7, h6⟩ := HR.out
      subst h6
      refine ⟨k + 1, by omega, by go_num, gt_step hI H6.out ?_ H7.out.2 HO.out.1 hq q4 H5.out.2.2.2.1 (Nat.le_refl _) (by omega) (by omega) (by omega) (by omega)⟩
      rw [h7]; exact H7.out.1
     case measure => simp only [intOf]; omega)
  · have xf : k = S.length := by omega
    subst xf
    obtain ⟨h8, _, _, ⟨rs, hf⟩, hO, _⟩ := hI
    obtain ⟨_, hd, hk, k9, ka⟩ := H5.out
    have kk : n ≤ S.length * sz := by rw [ka, ← hk]; exact cnt_end H2.out.1.par.d1
    rw [Nat.min_eq_right kk, List.take_of_length_le (by omega)] at h8
    have q9 : Outside (F.has p A.n) w wr := (Outside.of_all H.out _).trans hO
    have HF := hide4 (And.intro (ownsRow_weaken h8 H.out.size) q9) (HE.out.1.reads q9 rs hf) hd k9
    clear h8 hf hO hd hk k9 ka kk q9
    go_wp2
    go_ret2
    obtain ⟨⟨h1, h2⟩, h3, h4, h5⟩ := HF.out
    refine ⟨_, rs, rfl, ?_, ?_, h2⟩
    · rw [h4, h5]; exact h1
    · exact h3
end
section
open Gf
theorem vol_ne_arc {f D' L' G' ho : Nat} {off : Bool} (ha : ArcAt w ar v D L G t f n pg ob off) (hv : VolAt w v p D' L' G' ps ho) : v ≠ ar := fun e => by
 subst e
 have h1 : w.heap[v]? = some (.cells (arcA v D L G t f n pg ob off) 112 (0, 0)) := ha
 have h2 := hv
 unfold VolAt at h2
 rw [h1] at h2
 cases h2
theorem Cat.widen {K K' : Nat → Prop} {v : Value} {os : List Ob} (h : Cat K w v os) (hk : ∀ k, K k → K' k) : Cat K' w v os := by
 obtain ⟨ao, c, h1, h2, h3⟩ := h
 refine ⟨ao, c, h1, h2, fun hl => ?_⟩
 obtain ⟨b, off, q1, q2, q3, q4⟩ := h3 hl
 refine ⟨b, off, q1, hk b q2, q3, fun i hi => ?_⟩
 obtain ⟨sv, r1, r2, r3, r4⟩ := q4 i hi
 exact ⟨sv, r1, r2, r3, r4.widen hk⟩
theorem live_new (h : NewArc w w' p D L G ar v ps u A F) (hA : ArrAt w p A F) (hn : A.n = D + L + G) (hr : Pars D L G) (hc : 8 ≤ A.nb) (h1 : A.nb ≤ 1000) (hw : A.wait < 0) (h0 : ∀ i, A.lost i = false) (h2 : ∀ i m, A.bad i m = false) (hK : 3 ≤ w.heap.size) (h5 : ¬ F.has p A.n 2) (h6 : ¬ F.has p A.n 1) (h7 : (newArc (A.readTo A.n) D L G).fit) :
 Live w' ar v p ps D L G 1 u (.slice none 0 0) [2] [] (newArc (A.readTo A.n) D L G) F := by
 have h3 : ∀ j, F.has p A.n j → j < w.heap.size := fun j hj => hA.has_lt hj
 have he : (newArc (A.readTo A.n) D L G).n = A.n := rfl
 have h4 : (newArc (A.readTo A.n) D L G).nb = A.nb := rfl
 have ho := newOn (A := A.readTo A.n) D L G h2 h0 hw
 have h8 : pgs D 0 = 1 := by
  unfold pgs
  have := hr.d1
  rw [Nat.zero_add, Nat.div_eq_of_lt (by omega)]; rfl
 have h9 := h.arGe
 have hf := h.vGe
 refine ⟨h.arc, h.vol, ⟨fun e => by have := h3 _ e; omega, h5, h6⟩, fun e => by have := h3 _ e; omega, vol_ne_arc h.arc h.vol.vol, by omega, h7, hr, ?_, ?_, Cat.nil _ _, by rw [h4]; exact h1, by decide⟩
 · refine ⟨hn, ho.wait, ho.lost, ho.bad, by decide, ho.root, ho.fill, ?_, ?_, by decide, ?_, (fun x hx => by cases hx), List.Pairwise.nil, (fun x hx => by cases hx), ?_⟩
   · show 1 = pgs D 0
     exact h8.symm
   · intro k hk i hi
     have ha : k = 0 := by have : k < 1 := hk; omega
     subst ha
     exact ho.page i hi
   · intro x hx
     have : x = 2 := by simpa [allSt, Obs.os] using hx
     rw [this, h4]; omega
   · show 0 + 2 * 1 + 2 ≤ A.nb
     omega
 · exact h.pg.widen fun k hk => ⟨hk.2, fun e => by have := h3 _ e; have := hk.1; omega⟩
theorem Live.rdCongr (h : OnDisk A D L G t P xs) (rs : Nat → Int) : OnDisk (A.rd rs) D L G t P xs := h.congr rfl rfl rfl (fun _ => rfl) (fun _ _ => rfl) (fun _ _ _ => rfl)
theorem open_live (h : ArrAt w p A F) (hf : A.fit) (hd : OnDisk A D L G t P xs) (hr : Pars D L G) (k9 : 0 ≤ cache) (ka : cache ≤ 64) (kb : 8 ≤ A.nb) (ha : A.nb ≤ 1000) (kc : t ≤ 1000000)
 (hv : hvLaid w) (ht : tabLaid w) (hK : 3 ≤ w.heap.size) (hs : ¬ F.has p A.n 2) (hz : ¬ F.has p A.n 1) :
 Calls Tryz.prog 36 #[.pointer (some ⟨p, 0, none⟩), .agg #[.int .i64 D, .int .i64 L, .int .i64 G], .agg #[.int .i64 cache]] w fun e w' => ∃ ar v ps pg ob rs, e = .returned (.tuple #[.pointer (some ⟨ar, 0, none⟩), .nilIface]) ∧ w.heap.size ≤ ar ∧ Live w' ar v p ps D L G t pg ob P xs (A.rd rs) F ∧ Outside (F.has p A.n) w w' := by
 have k0 : ∀ j, F.has p A.n j → j < w.heap.size := fun j hj => h.has_lt hj
 have k1 : 2 < 3 := by decide
 have k2 : 1 < 3 := by decide
 have kk : xs.os.length ≤ 1000 := by
  have h1 := allSt_ge hd.fits
  have h2 := hd.room
  omega
 have hc : (packL xs.os).length ≤ 1000000 := by
  have h1 := packL_bound hr.d1 hd.fits
  have e : xs.os.length = xs.length := by simp [Obs.os]
  have h3 : 1500 / (D * 44) ≤ 34 := by
   have := hr.d1
   have : 1500 / (D * 44) ≤ 1500 / 44 := Nat.div_le_div_left (by omega) (by decide)
   omega
  have h4 : xs.length * (19 + 4 * (1500 / (D * 44) + 1)) ≤ 1000 * (19 + 4 * (34 + 1)) := Nat.mul_le_mul (by omega) (by omega)
  omega
 have k5 : P.length ≤ 1000 := by have := hd.room; omega
 have hU : UnpackOk D (packL xs.os) xs.os := unpackOk_any D ⟨hr.d1, by have := hr.d; omega⟩ (fun o ho => by obtain ⟨y, hy, rfl⟩ := List.mem_map.1 ho; exact (hd.fits y hy).fit) (fun o ho => by obtain ⟨y, hy, rfl⟩ := List.mem_map.1 ho; exact (hd.fits y hy).st) (rising_of_up (by rw [names_os]; exact hd.up)) (by omega)
 have kd := (tk_ok hd.nod hd.inb).1
 have km : P.getD 0 0 < A.nb := by
  by_cases hP : 0 < P.length
  · rw [getD_in hP]; exact (hd.inb _ (List.mem_append_left _ (List.getElem_mem hP))).2
  · have : P = [] := List.eq_nil_of_length_eq_zero (by omega)
    subst this
    show 0 < A.nb
    omega
 have ke : (Rec.root D L G t (P.getD 0 0) (packL xs.os).length).ok := by
  have := hr.d; have := hr.l4; have := hr.g
  exact ⟨by omega, by omega, by omega, by omega, by omega, by omega⟩
 refine (open_by (R := fun ar v ps w1 w2 => RsPost w1 ar v p D L G ps D L G t false A F P (packL xs.os) xs.os w2 ∧ Vol w1 v p D L G ps 0 A F ∧ Free F p A.n v ∧ ¬ F.has p A.n ar ∧ v ≠ ar ∧ w.heap.size ≤ ar ∧ w.heap.size ≤ v ∧ Below w.heap.size w w1 ∧ ar < w1.heap.size) h hf hd.n hr.r hr.d hr.l4 hr.g k9 ka kb hv ht hK hs hz (by have := hd.n; have := hr.d1; omega) .nilIface (.inl rfl) fun w1 ar v ps hg hh k6 h7 hA hV h8 h9 => ?_).mono ?_
 · refine (load_same hA hV h8 h9 hf hd.n hr.d1 hr.d hr.l4 hr.g hr.s (by omega) hd.wait hd.lost (fun d => hd.bad d 0) (fun d => hd.bad d 1) hd.fill P (packL xs.os) (packL_lt _) hc hd.pl (fun x hx => (hd.inb x (List.mem_append_left _ hx)).2) (by have := hd.room; omega) (by omega) (fun x _ i => hd.bad i x) hd.page xs.os hU kd h7 (by omega) (by omega) ke hd.turn hd.root).mono ?_
   rintro e w3 ⟨rfl, hp⟩
   obtain ⟨u, o, q1, _⟩ := id hp.arc
   exact ⟨rfl, ⟨hp, hV, h8, h9, h7, hh, k6, hg, hA.lt⟩, hp.out, _, q1, rfl⟩
 · rintro e w3 ⟨ar, v, ps, w1, w2, w0, he, ⟨hp, hV, h8, h9, h7, hh, k6, hg, kf⟩, rfl, ⟨kn, kg, h6, hi⟩, _, hO⟩
   have kh : e = .returned (.tuple #[.pointer (some ⟨ar, 0, none⟩), .nilIface]) := by
    rcases he with ⟨_, q⟩ | ⟨q, _⟩
    · exact q
    · exact absurd rfl q
   subst kh
   obtain ⟨u, o, q1, q2, q3⟩ := hp.arc
   obtain ⟨rs, ki⟩ := hp.arr
   have hm : (w2.setCell ⟨w0, 0, none⟩ .nilIface).heap[ar]? = some (.cells (arcA v D L G t (P.getD 0 0) (packL xs.os).length u o false) 112 (0, 0)) := (blk_setCell_other _ _ _ _ (Ne.symm h6)).trans q1
   have hq := heap_setCell_at (j := 9) hm (.bool false)
   have h0 : ∀ j, j ≠ w0 → ((w2.setCell ⟨w0, 0, none⟩ .nilIface).setCell ⟨ar, 9, none⟩ (.bool false)).heap[j]? = w2.heap[j]? := fun j hj => by
    by_cases e : j = ar
    · subst e; exact hq.trans q1.symm
    · exact (blk_setCell_other _ _ _ _ e).trans (blk_setCell_other _ _ _ _ hj)
   have kj : w2.heap.size ≤ ((w2.setCell ⟨w0, 0, none⟩ .nilIface).setCell ⟨ar, 9, none⟩ (.bool false)).heap.size := by simp [World.setCell]
   have k7 : KpS (fun k => w1.heap.size ≤ k) w2 ((w2.setCell ⟨w0, 0, none⟩ .nilIface).setCell ⟨ar, 9, none⟩ (.bool false)) := ⟨kj, fun j _ hj => h0 j (by omega)⟩
   have ko := hg.size
   have h5 : ∀ j, j < w.heap.size → ¬ F.has p A.n j → ((w2.setCell ⟨w0, 0, none⟩ .nilIface).setCell ⟨ar, 9, none⟩ (.bool false)).heap[j]? = w1.heap[j]? := fun j hj hn => (h0 j (by omega)).trans (hp.out.block j (by omega) (fun e => by
    rcases e with e | e | e
    · omega
    · omega
    · exact hn e))
   have k8 : ∀ k, w1.heap.size ≤ k → ar < k ∧ ¬ F.has p A.n k := fun k hk => ⟨by omega, fun e => by have := k0 _ e; omega⟩
   refine ⟨ar, v, ps, u, o, rs, rfl, hh, ⟨(h0 ar (Ne.symm h6)).trans q1, ⟨hp.vol.keep (h0 v (Ne.symm hi)), ki.keep fun j hj => h0 j (by have := k0 j hj; omega), hV.laid.keep (h5 _ (by omega) hs), hV.tab.keep (h5 _ (by omega) hz), Nat.le_trans hK hO.size⟩, h8, h9, h7, by omega, ⟨hf.n, hf.nb, hf.len, hf.byt⟩, hr, Live.rdCongr hd rs, (q2.keep k7).widen k8, ?_, ha, kc⟩, hO⟩
   exact (q3.keep k7).widen k8
theorem sopen_by {D L G : Int} (R : World → Nat → World → Prop) (hR : ∀ w2 ar w3 w4, R w2 ar w3 → Below w3.heap.size w3 w4 → R w2 ar w4) (h : ∀ w2, Below w.heap.size w w2 → Calls Tryz.prog 36 #[.pointer (some ⟨p, 0, none⟩), .agg #[.int .i64 D, .int .i64 L, .int .i64 G], .agg #[.int .i64 cache]] w2 fun e w' => ∃ ar, e = .returned (.tuple #[.pointer (some ⟨ar, 0, none⟩), .nilIface]) ∧ w2.heap.size ≤ w'.heap.size ∧ R w2 ar w') :
 Calls Tryz.prog 24 #[.pointer (some ⟨p, 0, none⟩), .agg #[.int .i64 D, .int .i64 L, .int .i64 G], .agg #[.int .i64 cache]] w fun e w' => ∃ sa ar w2, e = .returned (.tuple #[.pointer (some ⟨sa, 0, none⟩), .nilIface]) ∧ Below w.heap.size w w2 ∧ w.heap.size ≤ sa ∧ Boxed w' sa 86 (.pointer (some ⟨ar, 0, none⟩)) ∧ R w2 ar w' := by
 have hL := laid2B w D L G cache
 obtain ⟨w2, h1⟩ : ∃ w2, (w.alloc (.cells #[.int .i64 D, .int .i64 L, .int .i64 G] 25)).alloc (.cells #[.int .i64 cache] 80) = w2 := ⟨_, rfl⟩
 rw [h1] at hL
 have p0 : w2.cell? ⟨w.heap.size, 0, none⟩ = some (.int .i64 D) := by simp [World.cell?, hL.par]
 have p1 : w2.cell? ⟨w.heap.size, 1, none⟩ = some (.int .i64 L) := by simp [World.cell?, hL.par]
 have p2 : w2.cell? ⟨w.heap.size, 2, none⟩ = some (.int .i64 G) := by simp [World.cell?, hL.par]
 have o0 : w2.cell? ⟨w.heap.size + 1, 0, none⟩ = some (.int .i64 cache) := by simp [World.cell?, hL.opt]
 have hc := h w2 hL.below
 have H := hide2 hL hc
 clear hL hc h
 go_enter Tryz.func24, Tryz.ntmps24
 go_wp2_with fail
 refine H.out.2.mono ?_
 rintro e w3 ⟨ar, rfl, hz, h0⟩
 have H3 := hide2 hz h0
 clear hz h0
 go_wp2
 go_ret2
 have h2 : Below w3.heap.size w3 (w3.alloc (.cells #[.pointer (some ⟨ar, 0, none⟩)] 86)) := (Below.refl _ w3).alloc (Nat.le_refl _) _
 exact ⟨w3.heap.size, ar, w2, rfl, H.out.1.below, Nat.le_trans H.out.1.below.size H3.out.1, Boxed.new w3 _ _, hR _ _ _ _ H3.out.2 h2⟩
end
def wbL (D L G : Nat) (a s r : Value) (blocks : Nat) (out want : Value) (cache : Int) : List Value := [.int .i64 (D : Nat), .int .i64 (L : Nat), .int .i64 (G : Nat), a, s, r, .int .i64 (blocks : Nat), out, want, .int .i64 cache]
def WbAt (w : World) (wb D L G : Nat) (a s r : Value) (blocks : Nat) (out want : Value) (cache : Int) : Prop := RowC w wb 40 (wbL D L G a s r blocks out want cache)
theorem WbAt.cells {a r : Value} (h : WbAt w wb D L G a s r blocks out want cache) :
 w.cell? ⟨wb, 0, none⟩ = some (.int .i64 (D : Nat)) ∧ w.cell? ⟨wb, 1, none⟩ = some (.int .i64 (L : Nat)) ∧ w.cell? ⟨wb, 2, none⟩ = some (.int .i64 (G : Nat)) ∧ w.cell? ⟨wb, 3, none⟩ = some a ∧ w.cell? ⟨wb, 4, none⟩ = some s ∧ w.cell? ⟨wb, 5, none⟩ = some r ∧ w.cell? ⟨wb, 6, none⟩ = some (.int .i64 (blocks : Nat)) ∧ w.cell? ⟨wb, 7, none⟩ = some out ∧ w.cell? ⟨wb, 8, none⟩ = some want ∧ w.cell? ⟨wb, 9, none⟩ = some (.int .i64 cache) :=
 ⟨RowC.cell h rfl, RowC.cell h rfl, RowC.cell h rfl, RowC.cell h rfl, RowC.cell h rfl, RowC.cell h rfl, RowC.cell h rfl, RowC.cell h rfl, RowC.cell h rfl, RowC.cell h rfl⟩
theorem wopen_any {r : Value} (h : WbAt w wb D L G (.pointer (some ⟨p, 0, none⟩)) s r blocks out want cache) (hs : ∃ o, s = .pointer o) (R : Nat → World → Prop) (hR : ∀ sa w2, R sa w2 → w2.heap[wb]? = w.heap[wb]?)
 (ho : Calls Tryz.prog 24 #[.pointer (some ⟨p, 0, none⟩), .agg #[.int .i64 D, .int .i64 L, .int .i64 G], .agg #[.int .i64 cache]] w.drew fun e w2 => ∃ sa, e = .returned (.tuple #[.pointer (some ⟨sa, 0, none⟩), .nilIface]) ∧ R sa w2) :
 Calls Tryz.prog 11 #[.pointer (some ⟨wb, 0, none⟩)] w fun e w' => e = .returned (.bool true) ∧ ∃ sa w2 w3, R sa w2 ∧ Below w2.heap.size w2 w3 ∧ WbAt w' wb D L G (.pointer (some ⟨p, 0, none⟩)) (.pointer (some ⟨sa, 0, none⟩)) r blocks out want cache ∧ w' = w3.setCell ⟨wb, 4, none⟩ (.pointer (some ⟨sa, 0, none⟩)) := by
 obtain ⟨c0, c1, c2, c3, c4, c5, c6, c7, c8, c9⟩ := h.cells
 have HO := hide3 ho h hR
 clear ho h hR c4 c5 c6 c7 c8
 go_enter Tryz.func11, Tryz.ntmps11
 go_upto_region 1 with fail
 go_cut [3, 4] from 6 to 34 (fun v3 v4 wx => ∃ sa, v3 = .pointer (some ⟨sa, 0, none⟩) ∧ v4 = .nilIface ∧ R sa wx)
 case first =>
  go_region_with (go_at_call 24; refine HO.out.1.mono ?_; rintro e w2 ⟨sa, rfl, h0⟩; have H2 := hide h0; clear h0)
  all_goals (go_wp2_with fail; go_meet; case rel => exact ⟨sa, rfl, rfl, H2.out⟩)
 case rest =>
  obtain ⟨sa, rfl, rfl, h0⟩ := hcut
  have hW : WbAt wc wb D L G (.pointer (some ⟨p, 0, none⟩)) s r blocks out want cache := RowC.keep HO.out.2.1 (HO.out.2.2 sa wc h0)
  obtain ⟨so, rfl⟩ := hs
  have d4 := hW.cells.2.2.2.2.1
  have f4 := RowC.thaw hW 4
  have H2 := hide2 h0 hW
  clear h0 hW c0 c1 c2 c3 c9
  go_wp2_with fail
  refine (tell_nil wc).mono ?_
  rintro e w3 ⟨rfl, h2⟩
  have h1 : WbAt w3 wb D L G (.pointer (some ⟨p, 0, none⟩)) (.pointer so) r blocks out want cache := RowC.keep H2.out.2 (h2.block _ (RowC.lt H2.out.2))
  have e4 := h1.cells.2.2.2.2.1
  have g4 := RowC.thaw h1 4
  have H3 := hide2 h2 h1
  clear h2 h1 d4 f4
  dsimp only
  go_wp2
  go_ret
  refine ⟨rfl, sa, wc, w3, H2.out.1, H3.out.1, ?_, rfl⟩
  exact RowC.set H3.out.2 4 [.pointer (some ⟨sa, 0, none⟩)] (by simp [wbL])
section
open Gf
theorem Live.other (h : Live w ar v p ps D L G t pg ob P xs A F) (hz : w.heap.size ≤ w'.heap.size) {b : Nat} (hk : ∀ j, j ≠ b → j < w.heap.size → w'.heap[j]? = w.heap[j]?) (hb : b < ar) (h1 : b ≠ v) (h2 : ¬ F.has p A.n b) (h4 : 3 ≤ b) : Live w' ar v p ps D L G t pg ob P xs A F := by
 have k1 : 2 < 3 := by decide
 have k2 : 1 < 3 := by decide
 have h0 : KpS (fun k => ar < k ∧ ¬ F.has p A.n k) w w' := ⟨hz, fun k h3 hK => hk k (by have := hK.1; omega) h3⟩
 exact ⟨h.arc.keep (hk _ (by omega) h.arc.lt), ⟨h.vol.vol.keep (hk _ (Ne.symm h1) h.vol.vol.lt), h.vol.arr.keep fun j hj => hk j (fun e => h2 (e ▸ hj)) (h.vol.arr.has_lt hj), h.vol.laid.keep (hk _ (by omega) h.vol.laid.lt), h.vol.tab.keep (hk _ (by omega) h.vol.tab.lt), Nat.le_trans h.vol.room hz⟩, h.free, h.nar, h.vne, h.arK, h.fit, h.par, h.disk, h.pgs.keep h0, h.cat.keep h0, h.nb, h.turn⟩
theorem ArrAt.kind {X : World} (h : ArrAt X p A F) {k : Nat} (hk : F.has p A.n k) : ∃ cs T, X.heap[k]? = some (.cells cs T (0, 0)) ∧ (T = 72 ∨ T = 76 ∨ T = 240 ∨ T = 4) := by
 rcases hk with rfl | rfl | ⟨i, hi, rfl | rfl⟩
 · exact ⟨_, _, h.top, .inl rfl⟩
 · obtain ⟨cs, h1, _⟩ := h.drv
   exact ⟨_, _, h1, .inr (.inl rfl)⟩
 · obtain ⟨c, hc, _⟩ := h.blk i hi
   exact ⟨_, _, hc, .inr (.inr (.inl rfl))⟩
 · obtain ⟨c, hc, _⟩ := h.bad i hi
   exact ⟨_, _, hc, .inr (.inr (.inr rfl))⟩
end
end Go.Proofs.YtpaemkanfnddoaaGreatDoor
