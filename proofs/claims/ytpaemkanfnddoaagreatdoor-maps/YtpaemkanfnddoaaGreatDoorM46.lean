import Derived.Test.YtpaemkanfnddoaaGreatDoorM45
set_option maxRecDepth 100000
set_option maxHeartbeats 8000000
namespace Go.Proofs.YtpaemkanfnddoaaGreatDoor
open Go.RowKit Go.Deep Gf
variable {A B : Arr} {x : ByteArray} {F : Foot} {n cache : Int} {Q : List (ByteArray × Value)} {d l P : List Nat} {q D t t' rb b wb L G nb p sa ar v ps : Nat} {xs xs' : Obs} {r rv pg ob out want : Value} {w wx w0 : World}
def OpAt (w : World) (q : Nat) (o : Stp) (dv : Value) : Prop := RowC w q 33 [.int .i64 o.kind, .int .i64 o.a, .string o.s, dv]
theorem OpAt.cells {o : Stp} {dv : Value} (h : OpAt w q o dv) : w.cell? ⟨q, 0, none⟩ = some (.int .i64 o.kind) ∧ w.cell? ⟨q, 1, none⟩ = some (.int .i64 o.a) ∧ w.cell? ⟨q, 2, none⟩ = some (.string o.s) ∧ w.cell? ⟨q, 3, none⟩ = some dv :=
 ⟨RowC.cell h rfl, RowC.cell h rfl, RowC.cell h rfl, RowC.cell h rfl⟩
def isN (x : Value) (n : Int) : Prop := x = errV n ∨ (x = .nilIface ∧ n = 0)
theorem tell_any {x : Value} (hx : isN x n) {w : World} (hg : globalLaid w) : Calls Tryz.prog 14 #[x] w fun e w' => e = .returned (.int .i64 n) ∧ Below w.heap.size w w' := by
 rcases hx with rfl | ⟨rfl, rfl⟩
 · exact tell_errno n w hg
 · exact tell_nil w
def PutN (n : Int) (D t : Nat) (xs : Obs) (A : Arr) (x : ByteArray) (d : List Nat) (t' : Nat) (xs' : Obs) : Prop :=
 (n = 6 ∧ t' = t ∧ xs' = xs ∧ ¬ nameOk x) ∨ (n = 7 ∧ t' = t ∧ xs' = xs ∧ nameOk x ∧ 1500 < d.length) ∨ (n = 8 ∧ t' = t ∧ xs' = xs ∧ nameOk x ∧ d.length ≤ 1500 ∧ x ∈ xs.names) ∨
 (n = 10 ∧ t' = t ∧ xs' = xs ∧ nameOk x ∧ d.length ≤ 1500 ∧ x ∉ xs.names ∧ A.nb < (allSt xs.os).length + stOf D d.length + 2 * pgOf D (packL xs.os).length d.length + 2) ∨
 (n = 0 ∧ t' = t + 1 ∧ nameOk x ∧ d.length ≤ 1500 ∧ x ∉ xs.names ∧ ∃ o, o.name = x ∧ xs' = xs.ins (o, d))
theorem putN_of (h : PutQ D t xs A x d r t' xs' B w) : ∃ n, isN r n ∧ PutN n D t xs A x d t' xs' := by
 have nk := nameOk_iff x
 have nf : namedB x = false → ¬ nameOk x := fun e q => by rw [nk, e] at q; cases q
 rcases h with ⟨h1, h2, h3, h4⟩ | ⟨h1, h2, h3, h4, h5⟩ | ⟨h1, h2, h3, h4, h5, h6⟩ | ⟨h1, h2, h3, h4, h5⟩ | ⟨h1, h2, h4, h5⟩
 · exact ⟨6, .inl h1, .inl ⟨rfl, h2, h3, nf h4⟩⟩
 · exact ⟨7, .inl h1, .inr (.inl ⟨rfl, h2, h3, nk.2 h4, h5⟩)⟩
 · exact ⟨8, .inl h1, .inr (.inr (.inl ⟨rfl, h2, h3, nk.2 h4, h5, h6⟩))⟩
 · exact ⟨10, .inl h1, .inr (.inr (.inr (.inl ⟨rfl, h2, h3, nk.2 h4, h5⟩)))⟩
 · exact ⟨0, .inr ⟨h1, rfl⟩, .inr (.inr (.inr (.inr ⟨rfl, h2, nk.2 h4, h5⟩)))⟩
def RpN (w : World) (q : Nat) (Q : List (ByteArray × Value)) (x : ByteArray) (d : List Nat) (n : Int) (e : Ending) (w' : World) : Prop :=
 (n ≠ 0 ∧ n ≠ 10 ∧ e = .returned (.int .i64 n) ∧ w' = w) ∨ ((n = 0 ∨ n = 10) ∧ RpOk w q Q x d e w')
theorem rput_by (hr : RAt w q rb rv Q) (hl : Q.length ≤ 1000) (hx : Rlo wx Q xs) (hs : ∀ o ∈ Q, isSl o.2) {ao : Option Addr} {c m : Nat} (hm : d.length = m) (hd : Bs w (.slice ao m c) d) (hn : PutN n D t xs A x d t' xs') :
 Calls Tryz.prog 28 #[.pointer (some ⟨q, 0, none⟩), .string x, .slice ao m c] w (RpN w q Q x d n) := by
 subst hm
 have hi := isNone_iff hx x
 rcases hn with ⟨rfl, _, _, h4⟩ | ⟨rfl, _, _, h4, h5⟩ | ⟨rfl, _, _, h4, h5, h6⟩ | ⟨rfl, _, _, h4, h5, h6, _⟩ | ⟨rfl, _, h4, h5, h6, _⟩
 · exact (rput_name q x ao _ c h4 w).mono fun e w' h => .inl ⟨by decide, by decide, h.1, h.2⟩
 · exact (rput_size q x ao _ c h4 h5 w).mono fun e w' h => .inl ⟨by decide, by decide, h.1, h.2⟩
 · exact (rput_exists hr (by omega) x ao _ c h4 h5 (fun h => hi.1 h h6)).mono fun e w' h => .inl ⟨by decide, by decide, h.1, h.2⟩
 · exact (rput_ok hr (by omega) hs x ao c d hd h5 h4 (hi.2 h6)).mono fun e w' h => .inr ⟨.inr rfl, h⟩
 · exact (rput_ok hr (by omega) hs x ao c d hd h5 h4 (hi.2 h6)).mono fun e w' h => .inr ⟨.inl rfl, h⟩
theorem noNum_row (h : Brow w b l) : NoNum w b := fun off u hc => by
 have hh := h.heap
 simp only [World.cell?, hh] at hc
 have : u ∈ (l.map (fun x => Value.int .u8 ((x : Nat) : Int))) := by
  have h0 := hc
  simp at h0
  obtain ⟨x, hx, rfl⟩ := h0
  obtain ⟨h1, e⟩ := List.getElem?_eq_some_iff.1 hx
  exact List.mem_map.2 ⟨x, e ▸ List.getElem_mem h1, rfl⟩
 obtain ⟨x, _, rfl⟩ := List.mem_map.1 this
 exact ⟨fun y e => (by cases e), fun s e => (by cases e)⟩
theorem Brow.bs {m : Nat} (h : Brow w b (l ++ [71, 72])) (hm : l.length = m) (hl : l.length ≤ 1000000) (hx : ∀ x ∈ l, x < 256) : Bs w (.slice (some ⟨b, 0, none⟩) m (m + 2)) l := by
 subst hm
 have := Bs.of_row (n := l.length) h (by simp) (by omega) (by intro x h1; rcases List.mem_append.1 h1 with q | q; exact hx x q; simp at q; omega)
 have h0 : (l ++ [71, 72]).length = l.length + 2 := by simp
 rw [h0, List.take_left'] at this
 exact this
 rfl
theorem needs_gt (hx : Rlo w Q xs) {D nb m t t' : Nat} {xs' : Obs} {A : Arr} {x : ByteArray} {d : List Nat} (hA : A.nb = nb) (hm : d.length = m) (hD : 1 ≤ D) (h0 : D ≤ 6) (hf : ∀ x ∈ xs, ObFit D x) (h : PutN 10 D t xs A x d t' xs') : (nb : Int) - 8 < (needsN Q D (m : Int) : Int) := by
 rcases h with ⟨e, _⟩ | ⟨e, _⟩ | ⟨e, _⟩ | ⟨_, _, _, _, h5, _, h7⟩ | ⟨e, _⟩
 · cases e
 · cases e
 · cases e
 · have h1 := full_needs hD h0 hf (n := d.length) (nb := A.nb) h5 rfl rfl h7
   have e1 : stripesTo Q (D * 44) Q.length = sumSt D xs := by unfold stripesTo; rw [List.take_length]; exact hx.stripes D
   have e2 : needsN Q D (m : Int) = sumSt D xs + (m / (D * 44) + 1) + 2 * ((xs.length + 1) * 200 / (D * 44) + 1) := by
    unfold needsN
    rw [if_pos (by omega), Int.toNat_natCast, e1, hx.len]
   rw [hm] at h1
   rw [e2]
   omega
 · cases e
theorem wput_any {r : Nat} (h : MB w0 w wb D L G nb t xs p r sa ar v ps pg ob P A F out want cache) (hc : Dc w r Q xs out want) (o : Stp) (dv : Value) (hd : Bs w0 dv o.d) (x5 : o.d.length ≤ 100000) (x8 : t + 1 ≤ 1000000) (x9 : D ≤ 6) :
 Calls Tryz.prog 12 #[.pointer (some ⟨wb, 0, none⟩), .agg #[.int .i64 o.kind, .int .i64 o.a, .string o.s, dv]] w fun e w' => e = .returned (.bool true) ∧ MS w0 w' wb D L G nb (t + 1) := by
 obtain ⟨da, dc, xa, _⟩ := id hd
 subst xa
 have ha := hd.lt
 obtain ⟨m, hm⟩ : ∃ m, o.d.length = m := ⟨_, rfl⟩
 rw [hm] at hd x5 ⊢
 obtain ⟨w1, q9⟩ : ∃ w1, w.alloc (.cells #[.int .i64 o.kind, .int .i64 o.a, .string o.s, .slice da m dc] 33) = w1 := ⟨_, rfl⟩
 have hi : OpAt w1 w.heap.size o (.slice da m dc) := by rw [← q9]; exact heap_alloc_last w _
 have qa : Below w.heap.size w w1 := by rw [← q9]; exact (Below.refl _ w).alloc (Nat.le_refl _) _
 have h1 := h.below qa
 have hs := hc.keep (Kds.below qa _) (Nat.le_refl _)
 obtain ⟨q0, kf⟩ : ∃ q0, w.heap.size = q0 := ⟨_, rfl⟩
 have hx : q0 < w1.heap.size := by rw [← kf]; exact RowC.lt hi
 have k6 : ar < q0 := by rw [← kf]; exact h.live.arc.lt
 have hp : ∀ k, F.has p A.n k → k < q0 := fun k hk => by rw [← kf]; exact h.live.vol.arr.has_lt hk
 have k7 : v < q0 := by rw [← kf]; exact h.live.vol.vol.lt
 rw [kf] at hi
 have x3 := hi.cells.2.2.2
 have qb := roomy_any _ o.d w1 (hd.mono h1.base) (by omega)
 rw [hm] at qb
 have H1 := hide10 hi h1 hs hd ha hm hx k6 hp k7
 have HQ := hide kf
 clear hi h1 hs hd ha hm hx k6 hp k7 h hc qa
 go_enter Tryz.func12, Tryz.ntmps12
 go_wp2_with fail
 clear kf
 refine qb.mono ?_
 rintro e w2 ⟨rb, rfl, ka, kb, kc⟩
 clear qb q9 x3
 obtain ⟨hi, h1, hs, hd, ha, hm, hx, k6, hp, k7⟩ := H1.out
 have ko : OpAt w2 q0 o (.slice da m dc) := RowC.keep hi (kc.block _ hx)
 have h2 := h1.below kc
 have y2 := ko.cells.2.2.1
 have s2 := h2.wbA.cells.2.2.2.2.1
 have kp : Below w2.heap.size w2 w2.drew := (Below.refl _ w2).drew
 have qc := h2.below kp
 have kg := sPut qc.box qc.live o.s rb 0 (m + 2) o.d (fun w' hO => by
  rw [hm]
  have xb : Brow w' rb (o.d ++ [71, 72]) := World.rowIs.of_block kb (hO.block rb kb.lt (fun e => by have := hp _ e; omega))
  exact xb.bs hm (by omega) ha) (by omega) x8
 rw [hm] at kg
 have H2 := hide6 ko h2 kc kb ka kp
 clear hi h1 hs hd ha hm hx k6 hp k7 ko h2 kc kb ka kp qc
 go_upto_region 2 with fail
 go_cut [6] from 12 to 82 (fun v6 wx => DoPost w2.drew ar v p ps D L G A F (PutQ D t xs A o.s o.d) (.returned v6) wx)
 case first =>
  go_region_with (go_at_call 26; refine kg.mono ?_; rintro e w3 qd; obtain ⟨rr, _, _, _, _, _, _, rfl, _⟩ := id qd; have H3 := hide qd; clear qd)
  all_goals (go_wp2_with fail; go_meet; case rel => exact H3.out)
 case rest =>
  obtain ⟨rr, t', pg', ob', P', xs', B, he, _, qo, kd, h0, qp, qq⟩ := hcut
  cases he
  obtain ⟨n, hN, h9⟩ := putN_of qq
  obtain ⟨hi, h1, hs, hd, ha, hm, hx, k6, hp, k7⟩ := H1.out
  obtain ⟨ko, h2, kc, kb, ka, kp⟩ := H2.out
  have kh := kc.size
  have hy : Outside (fun j => j = ar ∨ F.has p A.n j) w2 wc := (Outside.of_all kp _).trans qp
  obtain ⟨h3, qs⟩ := h2.call hy qo kd h0
  have kr : OpAt wc q0 o (.slice da m dc) := RowC.keep ko (hy.block _ (by omega) (fun e => by
   rcases e with e | e
   · omega
   · have := hp _ e; omega))
  have ky : Brow wc rb (o.d ++ [71, 72]) := World.rowIs.of_block kb (hy.block rb kb.lt (fun e => by
   rcases e with e | e
   · omega
   · have := hp _ e; omega))
  have qv := tell_any hN h3.gl
  have qx := hy.size
  have hz : Kds w1.heap.size w1 wc := (Kds.below kc _).trans (qs.mono kh)
  have H3 := hide8 kr h3 ky hz h9 (Nat.le_trans kh qx) kd h0
  clear hN h9 hi h1 hs hd ha hm hx k6 hp k7 ko h2 kc kb ka kp kh hy h3 qs kr ky qx hz qo kd h0 qp qq kg y2 s2
  go_wp2_with fail
  refine qv.mono ?_
  rintro e w4 ⟨rfl, ks⟩
  clear qv
  obtain ⟨hi, h1, hs, hd, ha, hm, hx, k6, hp, k7⟩ := H1.out
  obtain ⟨kr, h3, ky, hz, h9, kz, kd, h0⟩ := H3.out
  have ka := H2.out.2.2.2.2.1
  have h4 := h3.below ks
  have ki : OpAt w4 q0 o (.slice da m dc) := RowC.keep kr (ks.block _ (RowC.lt kr))
  have kv : Brow w4 rb (o.d ++ [71, 72]) := ky.below ks
  have qe := still_any rb _ o.d w4 kv (hd.mono h4.base) (by omega)
  rw [hm] at qe
  have x4 := ki.cells.2.2.2
  have H4 := hide5 ki h4 kv (hz.trans (Kds.below ks _)) (Nat.le_trans kz ks.size)
  clear hi h1 hs hd ha hm hx k6 hp k7 kr h3 ky hz h9 kz kd h0 ka ki kv h4 ks
  go_wp2_with fail
  refine qe.mono ?_
  rintro e w5 ⟨rfl, kx, _⟩
  clear qe x4
  obtain ⟨hi, h1, hs, hd, ha, hm, hx, k6, hp, k7⟩ := H1.out
  obtain ⟨ki, h4, kv, q1, qf⟩ := H4.out
  obtain ⟨_, _, _, _, h9, _, kd, h0⟩ := H3.out
  have ka := H2.out.2.2.2.2.1
  have hf : ∀ j, j ≠ rb → j < w4.heap.size → w5.heap[j]? = w4.heap[j]? := fun j hj hl => kx.block j hl (fun e => hj (by cases e; rfl))
  have kj := kx.size
  have qy := h4.live.aside (w' := w5) (b := rb) (B := w1.heap.size) (noNum_row kv) kj hf ka (fun k hk => by rw [kd] at hk; have := hp k hk; omega) (by omega) (by omega) (by have := h1.live.vol.room; exact this)
  have q2 : Kds w1.heap.size w4 w5 := fun T _ j cs hj hq => hf j (by omega) (by omega)
  have q3 : Below w0.heap.size w0 w5 := h4.base.trans ⟨kx.os, kx.tape, kx.output, kj, fun j hj => hf j (by have := h1.base.size; omega) (Nat.lt_of_lt_of_le hj h4.base.size)⟩
  have q4 : w5.heap[wb]? = w4.heap[wb]? := hf wb (by have := h1.lt; omega) (RowC.lt h4.wbA)
  have h5 : MB w0 w5 wb D L G nb t' xs' p r sa ar v ps pg' ob' P' B F out want cache := ⟨RowC.keep h4.wbA q4, (hf sa (by have := h1.box.lt; omega) h4.box.lt).trans h4.box, qy, h4.nb, q3, h4.glob, h4.hK, h4.wbB, h4.lt, h4.fB⟩
  have hr : OpAt w5 q0 o (.slice da m dc) := RowC.keep ki (hf q0 (by omega) (RowC.lt ki))
  have hg := hs.keep (q1.trans q2) (Nat.le_refl _)
  obtain ⟨rb2, rv2, qz⟩ := hg.ref
  have k8 : Q.length ≤ 1000 := by
   rw [hg.rel.len]
   have := h1.live.few.1
   simpa [Obs.os] using this
  have x0 := rcopy_any qz (by omega) hg.rel.sl
  have r5 := h5.wbA.cells.2.2.2.2.2.1
  have H5 := hide4 hr h5 hg k8
  clear hi h1 hs hd ha hm hx k6 hp k7 ki h4 kv q1 qf h9 kd h0 ka hf kj qy q2 q3 q4 h5 hr hg qz k8 kx
  go_wp2_with fail
  refine x0.mono ?_
  rintro e w6 ⟨rfl, ⟨u6, ke⟩, k0⟩
  clear x0 r5
  obtain ⟨hr, h5, hg, k8⟩ := H5.out
  obtain ⟨_, _, _, hd, ha, hm, _, _, _, _⟩ := H1.out
  have h9 := H3.out.2.2.2.2.1
  have h6 := h5.below k0
  have kk : OpAt w6 q0 o (.slice da m dc) := RowC.keep hr (k0.block _ (RowC.lt hr))
  have qg := rput_by ke k8 hg.rel hg.rel.sl hm (hd.mono h6.base) h9
  obtain ⟨_, _, y6, x6⟩ := kk.cells
  obtain ⟨q5, km⟩ : ∃ q5, w5.heap.size = q5 := ⟨_, rfl⟩
  rw [km] at qg ke ⊢
  have H6 := hide5 kk h6 ke k0 km
  clear hr h5 hg k8 hd ha hm h9 h6 kk ke k0 km
  go_wp2_with fail
  refine qg.mono ?_
  rintro e w7 xc
  clear qg y6 x6
  obtain ⟨kk, h6, ke, k0, km⟩ := H6.out
  obtain ⟨hr, h5, hg, k8⟩ := H5.out
  have h9 := H3.out.2.2.2.2.1
  have h0 := H3.out.2.2.2.2.2.2.2
  rcases xc with ⟨n0, n10, rfl, rfl⟩ | ⟨hn, rfl, u7, vb7, qh, qi, qj⟩
  · have hh : t' = t ∧ xs' = xs := by
     rcases h9 with ⟨_, e1, e2, _⟩ | ⟨_, e1, e2, _⟩ | ⟨_, e1, e2, _⟩ | ⟨_, e1, e2, _⟩ | ⟨e, _⟩
     · exact ⟨e1, e2⟩
     · exact ⟨e1, e2⟩
     · exact ⟨e1, e2⟩
     · exact ⟨e1, e2⟩
     · exact absurd e n0
    obtain ⟨rfl, rfl⟩ := hh
    have hh : MS w0 w7 wb D L G nb (t' + 1) := ⟨_, _, _, _, _, _, _, _, _, _, _, _, _, _, _, _, _, h6, hg.keep (Kds.below k0 _) (Nat.le_refl _), by omega⟩
    have HF := hide hh
    clear hh kk h6 ke k0 km hr h5 hg k8 h9 h0
    go_wp2_with fail
    refine (num_any n w7).mono ?_
    rintro e w8 ⟨rfl, rfl⟩
    go_wp2
    go_ret
    exact ⟨rfl, HF.out⟩
  · have kn : Below w5.heap.size w6 w7 := qj.below fun k hk => ⟨Nat.lt_of_lt_of_le hk k0.size, by omega⟩
    have k5 : Below w5.heap.size w5 w7 := k0.trans kn
    have h7 := h5.below k5
    have k9 := hg.keep (Kds.below k5 _) (Nat.le_refl _)
    rcases hn with rfl | rfl
    · have hex : t' = t + 1 ∧ ∃ ob, ob.name = o.s ∧ xs' = xs.ins (ob, o.d) ∧ o.d.length ≤ 1500 := by
       rcases h9 with ⟨e, _⟩ | ⟨e, _⟩ | ⟨e, _⟩ | ⟨e, _⟩ | ⟨_, e1, _, e3, _, ob', e4, e5⟩
       · cases e
       · cases e
       · cases e
       · cases e
       · exact ⟨e1, ob', e4, e5, e3⟩
      obtain ⟨rfl, obx, qk, rfl, qm⟩ := hex
      have ha := H1.out.2.2.2.2.1
      have q7 := h7.wbA
      have r7 := q7.cells.2.2.2.2.2.1
      have f7 := RowC.thaw q7 5
      have hN : ∀ w8, w8 = w7.setCell ⟨wb, 5, none⟩ (.pointer (some ⟨q5, 0, none⟩)) → MS w0 w8 wb D L G nb (t + 1) := by
       rintro w8 rfl
       have xd : Outside (fun j => j = wb) w7 (w7.setCell ⟨wb, 5, none⟩ (.pointer (some ⟨q5, 0, none⟩))) := Outside.setCell _ _ _ rfl
       have xe : WbAt (w7.setCell ⟨wb, 5, none⟩ (.pointer (some ⟨q5, 0, none⟩))) wb D L G (.pointer (some ⟨p, 0, none⟩)) (.pointer (some ⟨sa, 0, none⟩)) (.pointer (some ⟨q5, 0, none⟩)) nb out want cache := RowC.set q7 5 [.pointer (some ⟨q5, 0, none⟩)] (by simp [wbL])
       obtain ⟨h8, xf⟩ := h7.write xd xe
       have hrel : Rlo w7 (Q.take (placeN (pNames Q) o.s) ++ (o.s, vb7) :: Q.drop (placeN (pNames Q) o.s)) (xs.ins (obx, o.d)) := by
        unfold Obs.ins
        rw [k9.rel.names, qk]
        exact (k9.rel.take _).app ⟨⟨qk.symm, ⟨_, qi⟩, ha, qm⟩, k9.rel.drop _⟩
       have qn : Dc w7 q5 (Q.take (placeN (pNames Q) o.s) ++ (o.s, vb7) :: Q.drop (placeN (pNames Q) o.s)) (xs.ins (obx, o.d)) out want := ⟨⟨_, u7, qh⟩, hrel, k9.ow⟩
       exact ⟨_, _, _, _, _, _, _, _, _, _, _, _, _, _, _, _, _, h8, qn.keep xf (Nat.le_refl _), Nat.le_refl _⟩
      have HN := hide hN
      clear hN kk h6 ke k0 km hr h5 hg k8 h9 h0 qh qi qj kn k5 h7 k9 q7 ha qk
      go_wp2_with fail
      refine (num_any 0 _).mono ?_
      rintro e w8 ⟨rfl, rfl⟩
      go_wp2
      go_ret
      exact ⟨rfl, HN.out _ rfl⟩
    · have hex : t' = t ∧ xs' = xs := by
       rcases h9 with ⟨e, _⟩ | ⟨e, _⟩ | ⟨e, _⟩ | ⟨_, e1, e2, _⟩ | ⟨e, _⟩
       · cases e
       · cases e
       · cases e
       · exact ⟨e1, e2⟩
       · cases e
      obtain ⟨rfl, rfl⟩ := hex
      have hm := H1.out.2.2.2.2.2.1
      have hh : MS w0 w7 wb D L G nb (t' + 1) := ⟨_, _, _, _, _, _, _, _, _, _, _, _, _, _, _, _, _, h7, k9, by omega⟩
      have xg := needs_gt k9.rel (A := A) (h0.symm.trans h7.nb) hm h7.live.par.d1 x9 h7.live.disk.fits h9
      obtain ⟨c0, _, _, _, _, c5, c6, _⟩ := h7.wbA.cells
      have x1 : OpAt w7 q0 o (.slice da m dc) := RowC.keep hr (k5.block _ (RowC.lt hr))
      have x7 := x1.cells.2.2.2
      obtain ⟨rb7, rv7, q8⟩ := k9.ref
      have x2 : ∀ k, Calls Tryz.prog 20 #[.pointer (some ⟨r, 0, none⟩), .int .i64 D, .int .i64 m] (w7.drewN k) fun e w' => e = .returned (.int .i64 (needsN Q D (m : Int) : Nat)) ∧ w' = w7.drewN k := fun k => by
       have q6 : Below w7.heap.size w7 (w7.drewN k) := ⟨rfl, rfl, rfl, Nat.le_refl _, fun _ _ => rfl⟩
       exact (rneeds_any ⟨(q6.block _ (Array.getElem?_eq_some_iff.1 q8.top).1).trans q8.top, ownsRow_below q8.own q6⟩ k8 k9.rel.sl D h7.live.par.d1 (by omega) (m : Int) (by omega) (by omega)).mono fun e w' q => ⟨q.2, q.1⟩
      generalize needsN Q D (m : Int) = nn at *
      have HF := hide2 hh x2
      have xh : IntKind.i64.wrap ((nb : Int) - 8) = (nb : Int) - 8 := by rw [IntKind.wrap_i64]; have := h7.nb; have := h7.live.nb; omega
      clear hh x2 kk h6 ke k0 km hr h5 hg k8 h9 h0 qh qi qj kn k5 h7 k9 hm x1 q8
      go_upto_region 8 with fail
      go_quiet ((go_at_call 20; refine Calls.quiet_of_same (HF.out.2 _)))
      go_wp2
      go_ret
      obtain ⟨t1, xs1, Q1, p1, r1, sa1, ar1, v1, ps1, pg1, ob1, P1, A1, F1, out1, want1, cache1, hM, hC, hT⟩ := HF.out.1
      have q6 : Below w7.heap.size w7 (w7.drewN nq) := ⟨rfl, rfl, rfl, Nat.le_refl _, fun _ _ => rfl⟩
      exact ⟨rfl, _, _, _, _, _, _, _, _, _, _, _, _, _, _, _, _, _, hM.below q6, hC.keep (Kds.below q6 _) (Nat.le_refl _), hT⟩
structure St0 (w0 w w1 : World) (wb D L G nb t : Nat) (xs : Obs) (Q : List (ByteArray × Value)) (p r sa ar v ps : Nat) (pg ob : Value) (P : List Nat) (A : Arr) (F : Foot) (out want : Value) (cache : Int) (o : Stp) (dv : Value) : Prop where
 op : OpAt w1 w.heap.size o dv
 b : MB w0 w1 wb D L G nb t xs p r sa ar v ps pg ob P A F out want cache
 c : Dc w1 r Q xs out want
 ar : ar < w.heap.size
 f : ∀ k, F.has p A.n k → k < w.heap.size
 lt : w.heap.size < w1.heap.size
theorem st0 {r : Nat} (h : MB w0 w wb D L G nb t xs p r sa ar v ps pg ob P A F out want cache) (hc : Dc w r Q xs out want) (o : Stp) (dv : Value) {w1 : World} (h0 : w.alloc (.cells #[.int .i64 o.kind, .int .i64 o.a, .string o.s, dv] 33) = w1) : St0 w0 w w1 wb D L G nb t xs Q p r sa ar v ps pg ob P A F out want cache o dv := by
 have h1 : Below w.heap.size w w1 := by rw [← h0]; exact (Below.refl _ w).alloc (Nat.le_refl _) _
 have h2 : OpAt w1 w.heap.size o dv := by rw [← h0]; exact heap_alloc_last w _
 exact ⟨h2, h.below h1, hc.keep (Kds.below h1 _) (Nat.le_refl _), h.live.arc.lt, fun k hk => h.live.vol.arr.has_lt hk, RowC.lt h2⟩
theorem MS.mono {T T' : Nat} (h : MS w0 w wb D L G nb T) (hT : T ≤ T') : MS w0 w wb D L G nb T' := by
 obtain ⟨t, xs, Q, p, r, sa, ar, v, ps, pg, ob, P, A, F, out, want, cache, h1, h2, h3⟩ := h
 exact ⟨t, xs, Q, p, r, sa, ar, v, ps, pg, ob, P, A, F, out, want, cache, h1, h2, by omega⟩
section
theorem get_by {base : Nat} {u rr : Value} (hg : GetR xs x base u rr wx) (hr : Rlo wx Q xs) (hu : Up xs.names) (hf : ∀ x ∈ xs, ObFit D x) :
 ∃ n c l, isN rr n ∧ (∀ e, RGet Q x e → e = .returned (.tuple #[c, .int .i64 n])) ∧ Ow wx u l ∧ Ow wx c l ∧ (n = 0 ∨ (n ≠ 0 ∧ u = .slice none 0 0)) := by
 have nk := nameOk_iff x
 have hi := isNone_iff hr x
 rcases hg with ⟨h1, h2, h3⟩ | ⟨h1, h2, h3, h4⟩ | ⟨h1, h3, k0, h0, hn, ho⟩
 · refine ⟨6, .slice none 0 0, [], .inl h1, fun e he => ?_, h2 ▸ Ow.nil _, Ow.nil _, .inr ⟨by decide, h2⟩⟩
   rcases he with ⟨_, e1⟩ | ⟨q, _⟩ | ⟨q, _⟩
   · exact e1
   · rw [nk, h3] at q; cases q
   · rw [nk, h3] at q; cases q
 · refine ⟨9, .slice none 0 0, [], .inl h1, fun e he => ?_, h2 ▸ Ow.nil _, Ow.nil _, .inr ⟨by decide, h2⟩⟩
   rcases he with ⟨q, _⟩ | ⟨_, _, e1⟩ | ⟨_, k, q, _⟩
   · exact absurd (nk.2 h3) q
   · exact e1
   · exact absurd (isAt_place hr hu q).2.2 h4
 · have h5 : k0 < Q.length := by rw [hr.len]; exact h0
   obtain ⟨q1, q2⟩ := hr.at k0 h5 h0
   have h6 := hf _ (List.getElem_mem h0)
   have h7 : x ∈ xs.names := by rw [← hn]; exact List.mem_map.2 ⟨xs[k0].1, List.mem_map.2 ⟨xs[k0], List.getElem_mem h0, rfl⟩, rfl⟩
   refine ⟨0, Q[k0].2, xs[k0].2, .inr ⟨h1, rfl⟩, fun e he => ?_, ⟨⟨base, ho⟩, h6.byt, by rw [h6.len]; exact h6.fit.size⟩, q2, .inl rfl⟩
   rcases he with ⟨q, _⟩ | ⟨_, q, _⟩ | ⟨_, k, q, e1⟩
   · exact absurd (nk.2 h3) q
   · exact absurd h7 (hi.1 q)
   · have hp := (isAt_place hr hu q).1
     have hl : k0 < xs.names.length := by rw [← hr.names]; unfold pNames; rw [List.length_map]; exact h5
     have h8 := placeN_there hu hl (x := x) (by simpa [Obs.names, namesOf, Obs.os] using hn)
     have e2 : k = k0 := hp.symm.trans h8
     subst e2
     rw [e1, List.getD_eq_getElem?_getD, List.getElem?_eq_getElem h5]; rfl
section
variable {w0 w : World} {wb D L G nb t : Nat} {xs : Obs} {Q : List (ByteArray × Value)} {p r sa ar v ps : Nat} {pg ob : Value} {P : List Nat} {A : Arr} {F : Foot} {out want : Value} {cache : Int}
theorem step_put (h : MB w0 w wb D L G nb t xs p r sa ar v ps pg ob P A F out want cache) (hc : Dc w r Q xs out want) (o : Stp) (dv : Value) (hd : Bs w0 dv o.d) (h2 : o.d.length ≤ 100000) (h3 : t + 1 ≤ 1000000) (h4 : D ≤ 6) (hk : o.kind = 1) :
 Calls Tryz.prog 7 #[.pointer (some ⟨wb, 0, none⟩), .agg #[.int .i64 o.kind, .int .i64 o.a, .string o.s, dv]] w fun e w' => e = .returned (.bool true) ∧ MS w0 w' wb D L G nb (t + 1) := by
 obtain ⟨da, dc, h5, _⟩ := id hd
 subst h5
 obtain ⟨m, hm⟩ : ∃ m, o.d.length = m := ⟨_, rfl⟩
 rw [hm] at hd ⊢
 obtain ⟨w1, h0⟩ : ∃ w1, w.alloc (.cells #[.int .i64 o.kind, .int .i64 o.a, .string o.s, .slice da m dc] 33) = w1 := ⟨_, rfl⟩
 have hS := st0 h hc o _ h0
 have hp := wput_any hS.b hS.c o _ hd h2 h3 h4
 obtain ⟨x0, x1, x2, x3⟩ := hS.op.cells
 clear hS h hc hd hm
 rw [hk] at x0 h0 hp ⊢
 go_enter Tryz.func7, Tryz.ntmps7
 go_wp2_with fail
 refine hp.mono ?_
 rintro e w2 ⟨rfl, h1⟩
 have HM := hide h1
 clear h1 hp
 go_wp2
 go_ret
 exact ⟨rfl, HM.out⟩
theorem step_get (h : MB w0 w wb D L G nb t xs p r sa ar v ps pg ob P A F out want cache) (hc : Dc w r Q xs out want) (o : Stp) (dv : Value) (kk : ∃ da m dc, dv = .slice da m dc) (hk : o.kind = 2) :
 Calls Tryz.prog 7 #[.pointer (some ⟨wb, 0, none⟩), .agg #[.int .i64 o.kind, .int .i64 o.a, .string o.s, dv]] w fun e w' => e = .returned (.bool true) ∧ MS w0 w' wb D L G nb (t + 1) := by
 obtain ⟨da, m, dc, rfl⟩ := kk
 obtain ⟨w1, k6⟩ : ∃ w1, w.alloc (.cells #[.int .i64 o.kind, .int .i64 o.a, .string o.s, .slice da m dc] 33) = w1 := ⟨_, rfl⟩
 have hS := st0 h hc o _ k6
 have hg : Below w1.heap.size w1 w1.drew := (Below.refl _ w1).drew
 have k7 := hS.b.below hg
 have hh := sGet k7.box k7.live o.s
 obtain ⟨x0, x1, x2, x3⟩ := hS.op.cells
 have s1 := hS.b.wbA.cells.2.2.2.2.1
 obtain ⟨q0, hf⟩ : ∃ q0, w.heap.size = q0 := ⟨_, rfl⟩
 have HS := hide2 hS hf
 clear hS h hc hg k7
 rw [hk] at x0 k6 ⊢
 rw [hf] at x0 x1 x2 x3
 have HK := hide hk
 clear hk
 go_enter Tryz.func7, Tryz.ntmps7
 go_upto_region 5 with fail
 clear hf k6 x0 x1 x3
 go_cut [5, 6] from 21 to 233 (fun v5 v6 wx => GePost w1.drew ar v p ps D L G t xs A F o.s (.returned (.tuple #[v5, v6])) wx)
 case first =>
  go_region_with (go_at_call 13; refine hh.mono ?_; rintro e w2 k8; obtain ⟨uu, rr, _, _, _, _, rfl, _⟩ := id k8; have H2 := hide k8; clear k8)
  all_goals (go_wp2_with fail; go_meet; case rel => exact H2.out)
 case rest =>
  obtain ⟨u, rr, rs, pg', ob', P', he, k9, ka, kb⟩ := hcut
  cases he
  obtain ⟨hS, hf⟩ := HS.out
  have hg : Below w1.heap.size w1 w1.drew := (Below.refl _ w1).drew
  have ha : Outside (fun j => j = ar ∨ F.has p A.n j) w1 wc := (Outside.of_all hg _).trans ka
  obtain ⟨h2, kc⟩ := hS.b.call ha k9 rfl rfl
  have h0 := hS.c.keep kc (Nat.le_refl _)
  have h7 : OpAt wc q0 o (.slice da m dc) := by
   rw [← hf]
   exact RowC.keep hS.op (ha.block _ hS.lt (fun e => by
    rcases e with e | e
    · have := hS.ar; omega
    · have := hS.f _ e; omega))
  obtain ⟨n, cv, l, hN, h8, h1, h4, h9⟩ := get_by kb h0.rel h2.live.disk.up h2.live.disk.fits
  have kd := tell_any hN h2.gl
  obtain ⟨⟨ua, um, uc, hu, _⟩, _⟩ := h1.sl
  obtain ⟨⟨ca, cm, cc, km, _⟩, _⟩ := h4.sl
  subst hu km
  have H2 := hide7 h2 h0 h7 h8 h1 h4 h9
  clear hS hf hg ha h2 kc h0 h7 hN h8 h1 h4 h9 k9 ka kb hh x2 s1
  go_wp2_with fail
  refine kd.mono ?_
  rintro e w3 ⟨rfl, hi⟩
  clear kd
  obtain ⟨h2, h0, h7, h8, h1, h4, h9⟩ := H2.out
  have h3 := h2.below hi
  have k0 := h0.keep (Kds.below hi _) (Nat.le_refl _)
  have ke : OpAt w3 q0 o (.slice da m dc) := RowC.keep h7 (hi.block _ (RowC.lt h7))
  have y3 := ke.cells.2.2.1
  have r3 := h3.wbA.cells.2.2.2.2.2.1
  have kf : Q.length ≤ 1000000 := by
   rw [k0.rel.len]
   have := h3.live.few.1
   have e : xs.os.length = xs.length := by simp [Obs.os]
   omega
  have kg : ∀ k, Calls Tryz.prog 15 #[.pointer (some ⟨r, 0, none⟩), .string o.s] (w3.drewN k) fun e w' => e = .returned (.tuple #[.slice ca cm cc, .int .i64 n]) ∧ w' = w3.drewN k := fun k => by
   have kn : Below w3.heap.size w3 (w3.drewN k) := ⟨rfl, rfl, rfl, Nat.le_refl _, fun _ _ => rfl⟩
   obtain ⟨rb, rv, hr⟩ := (k0.keep (Kds.below kn _) (Nat.le_refl _)).ref
   exact (rget_any hr kf o.s).mono fun e w' q => ⟨h8 e q.2, q.1⟩
  have H3 := hide4 h3 k0 kg hi
  clear h2 h0 h7 h8 h1 h4 h9 h3 k0 ke kf kg hi
  go_upto_region 7 with fail
  go_quiet ((go_at_call 15; refine Calls.quiet_of_same (H3.out.2.2.1 _)))
  clear y3 r3
  have hj : Below wc.heap.size wc (w3.drewN nq) := H3.out.2.2.2.trans ⟨rfl, rfl, rfl, Nat.le_refl _, fun _ _ => rfl⟩
  obtain ⟨w4, kh⟩ : ∃ w4, w3.drewN nq = w4 := ⟨_, rfl⟩
  rw [kh] at hj ⊢
  clear kh
  obtain ⟨h2, h0, h7, h8, h1, h4, h9⟩ := H2.out
  have hm := h1.keep (Kd.below hj _ _)
  have hp := h4.keep (Kd.below hj _ _)
  have ki := same_eq _ _ l w4 hm.bs hp.bs
  have H4 := hide hj
  clear hj h2 h0 h7 h8 h1 h4 h9 hm hp
  go_wp2_with fail
  refine ki.mono ?_
  rintro e w5 ⟨rfl, m5, kj⟩
  have hq : Below wc.heap.size wc w5 := H4.out.trans (by rw [kj]; exact ⟨rfl, rfl, rfl, Nat.le_refl _, fun _ _ => rfl⟩)
  clear kj ki
  obtain ⟨h2, h0, h7, h8, h1, h4, h9⟩ := H2.out
  have h5 := h2.below hq
  have k5 := h0.keep (Kds.below hq _) (Nat.le_refl _)
  have hs := h1.keep (Kd.below hq _ _)
  have hx := h4.keep (Kd.below hq _ _)
  have hy := h5.wbA
  obtain ⟨_, _, _, _, _, _, _, c7, c8, _⟩ := hy.cells
  have f7 := RowC.thaw hy 7
  have f8 := RowC.thaw hy 8
  obtain ⟨lo, ow1, ow2⟩ := k5.ow
  obtain ⟨oa, om, oc, rfl⟩ : ∃ oa om oc, out = .slice oa om oc := by obtain ⟨⟨ua, um, uc, e, _⟩, _⟩ := ow1.sl; exact ⟨ua, um, uc, e⟩
  obtain ⟨wa, wm, wd, rfl⟩ : ∃ wa wm wd, want = .slice wa wm wd := by obtain ⟨⟨ua, um, uc, e, _⟩, _⟩ := ow2.sl; exact ⟨ua, um, uc, e⟩
  have hz : MS w0 ((w5.setCell ⟨wb, 7, none⟩ (.slice ua um uc)).setCell ⟨wb, 8, none⟩ (.slice ca cm cc)) wb D L G nb (t + 1) := by
   have hO : Outside (fun j => j = wb) w5 ((w5.setCell ⟨wb, 7, none⟩ (.slice ua um uc)).setCell ⟨wb, 8, none⟩ (.slice ca cm cc)) := (Outside.setCell (S := fun j => j = wb) w5 ⟨wb, 7, none⟩ _ rfl).trans (Outside.setCell (S := fun j => j = wb) _ ⟨wb, 8, none⟩ _ rfl)
   have hW : WbAt ((w5.setCell ⟨wb, 7, none⟩ (.slice ua um uc)).setCell ⟨wb, 8, none⟩ (.slice ca cm cc)) wb D L G (.pointer (some ⟨p, 0, none⟩)) (.pointer (some ⟨sa, 0, none⟩)) (.pointer (some ⟨r, 0, none⟩)) nb (.slice ua um uc) (.slice ca cm cc) cache := RowC.set hy 7 [.slice ua um uc, .slice ca cm cc] (by simp [wbL])
   obtain ⟨h6, ko⟩ := h5.write hO hW
   have kp : Dc w5 r Q xs (.slice ua um uc) (.slice ca cm cc) := ⟨k5.ref, k5.rel, l, hs, hx⟩
   exact ⟨_, _, _, _, _, _, _, _, _, _, _, _, _, _, _, _, _, h6, kp.keep ko (Nat.le_refl _), by omega⟩
  have HF := hide hz
  clear hz h2 h0 h7 h8 h1 h4 h5 k5 hs hx hy ow1 ow2 hq
  rcases h9 with rfl | ⟨hn, hu⟩
  · go_wp2_with fail
    refine (num_any 0 _).mono ?_
    rintro e w8 ⟨rfl, rfl⟩
    go_wp2
    go_ret
    exact ⟨rfl, HF.out⟩
  · cases hu
    have kr := fun wx => Lib.run_eql_slice_nil (P := Tryz.prog) wx 31 5 none 0 0 0 0 Tryz.underlying31
    go_wp2_with fail
    refine (num_any n _).mono ?_
    rintro e w8 ⟨rfl, rfl⟩
    go_wp2
    go_ret
    exact ⟨rfl, HF.out⟩
end
end
section
def DelN (n : Int) (t : Nat) (xs : Obs) (x : ByteArray) (t' : Nat) (xs' : Obs) : Prop :=
 (n = 6 ∧ t' = t ∧ xs' = xs ∧ ¬ nameOk x) ∨ (n = 9 ∧ t' = t ∧ xs' = xs ∧ nameOk x ∧ x ∉ xs.names) ∨ (n = 0 ∧ t' = t + 1 ∧ nameOk x ∧ x ∈ xs.names ∧ xs' = xs.del (placeN xs.names x))
theorem delN_of (h : DelQ t xs x r t' xs' B w) : ∃ n, isN r n ∧ DelN n t xs x t' xs' := by
 have nk := nameOk_iff x
 rcases h with ⟨h1, h2, h3, h4⟩ | ⟨h1, h2, h3, h4, h5⟩ | ⟨h1, h2, h4, h5⟩
 · exact ⟨6, .inl h1, .inl ⟨rfl, h2, h3, fun q => by rw [nk, h4] at q; cases q⟩⟩
 · exact ⟨9, .inl h1, .inr (.inl ⟨rfl, h2, h3, nk.2 h4, h5⟩)⟩
 · exact ⟨0, .inr ⟨h1, rfl⟩, .inr (.inr ⟨rfl, h2, nk.2 h4, h5⟩)⟩
theorem del_by {w' : World} {n0 : Nat} {e : Ending} (hq : RAt w q rb rv Q) (h : RDel w q Q x e w') (hn : DelN n t xs x t' xs') (hr : Rlo wx Q xs) (hu : Up xs.names) (h0 : n0 ≤ q) (hz : n0 ≤ w.heap.size) :
 e = .returned (.int .i64 n) ∧ Below n0 w w' ∧ n ≠ 10 ∧ ∃ Q', (∃ rb rv, RAt w' q rb rv Q') ∧ ∀ wy, Rlo wy Q xs → Rlo wy Q' xs' := by
 have hi := isNone_iff hr x
 rcases hn with ⟨rfl, _, rfl, h4⟩ | ⟨rfl, _, rfl, h4, h5⟩ | ⟨rfl, _, h4, h5, rfl⟩
 · rcases h with ⟨_, e1, rfl⟩ | ⟨q, _⟩ | ⟨q, _⟩
   · exact ⟨e1, Below.refl _ _, by decide, Q, ⟨_, _, hq⟩, fun _ z => z⟩
   · exact absurd q h4
   · exact absurd q h4
 · rcases h with ⟨q, _⟩ | ⟨_, _, e1, rfl⟩ | ⟨_, k, q, _⟩
   · exact absurd h4 q
   · exact ⟨e1, Below.refl _ _, by decide, Q, ⟨_, _, hq⟩, fun _ z => z⟩
   · exact absurd (isAt_place hr hu q).2.2 h5
 · rcases h with ⟨q, _⟩ | ⟨_, q, _⟩ | ⟨_, k, q, e1, ⟨u, hR⟩, hO⟩
   · exact absurd h4 q
   · exact absurd h5 (hi.1 q)
   · refine ⟨e1, hO.below fun j hj => ⟨by omega, by omega⟩, by decide, _, ⟨_, u, hR⟩, fun wy z => ?_⟩
     rw [(isAt_place hr hu q).1]
     exact (z.take k).app (z.drop (k + 1))
section
variable {w0 w : World} {wb D L G nb t : Nat} {xs : Obs} {Q : List (ByteArray × Value)} {p r sa ar v ps : Nat} {pg ob : Value} {P : List Nat} {A : Arr} {F : Foot} {out want : Value} {cache : Int}
theorem step_del (h : MB w0 w wb D L G nb t xs p r sa ar v ps pg ob P A F out want cache) (hc : Dc w r Q xs out want) (o : Stp) (dv : Value) (kk : ∃ da m dc, dv = .slice da m dc) (km : t + 1 ≤ 1000000) (hk : o.kind = 3) :
 Calls Tryz.prog 7 #[.pointer (some ⟨wb, 0, none⟩), .agg #[.int .i64 o.kind, .int .i64 o.a, .string o.s, dv]] w fun e w' => e = .returned (.bool true) ∧ MS w0 w' wb D L G nb (t + 1) := by
 obtain ⟨da, m, dc, rfl⟩ := kk
 obtain ⟨w1, hz⟩ : ∃ w1, w.alloc (.cells #[.int .i64 o.kind, .int .i64 o.a, .string o.s, .slice da m dc] 33) = w1 := ⟨_, rfl⟩
 have hS := st0 h hc o _ hz
 have hj : Below w1.heap.size w1 w1.drew := (Below.refl _ w1).drew
 have k0 := hS.b.below hj
 have hm := sDelete k0.box k0.live o.s km
 obtain ⟨x0, x1, x2, x3⟩ := hS.op.cells
 have s1 := hS.b.wbA.cells.2.2.2.2.1
 obtain ⟨q0, hf⟩ : ∃ q0, w.heap.size = q0 := ⟨_, rfl⟩
 have HS := hide2 hS hf
 clear hS h hc hj k0
 rw [hk] at x0 hz ⊢
 rw [hf] at x0 x1 x2 x3
 have HK := hide hk
 clear hk
 go_enter Tryz.func7, Tryz.ntmps7
 go_upto_region 13 with fail
 clear hf hz x0 x1 x3
 go_cut [11] from 21 to 233 (fun v11 wx => DoPost w1.drew ar v p ps D L G A F (DelQ t xs o.s) (.returned v11) wx)
 case first =>
  go_region_with (go_at_call 17; refine hm.mono ?_; rintro e w2 k5; obtain ⟨rr, _, _, _, _, _, _, rfl, _⟩ := id k5; have H2 := hide k5; clear k5)
  all_goals (go_wp2_with fail; go_meet; case rel => exact H2.out)
 case rest =>
  obtain ⟨rr, t', pg', ob', P', xs', B, he, _, k8, k9, hn, ka, kb⟩ := hcut
  cases he
  obtain ⟨n, hN, hr⟩ := delN_of kb
  obtain ⟨hS, hf⟩ := HS.out
  have hj : Below w1.heap.size w1 w1.drew := (Below.refl _ w1).drew
  have h7 : Outside (fun j => j = ar ∨ F.has p A.n j) w1 wc := (Outside.of_all hj _).trans ka
  obtain ⟨h2, kc⟩ := hS.b.call h7 k8 k9 hn
  have hg := hS.c.keep kc (Nat.le_refl _)
  have hs := hS.b.live.disk.up
  have hp : Q.length ≤ 1000000 := by
   rw [hg.rel.len]
   have := hS.b.live.few.1
   have e : xs.os.length = xs.length := by simp [Obs.os]
   omega
  have hh : OpAt wc q0 o (.slice da m dc) := by
   rw [← hf]
   exact RowC.keep hS.op (h7.block _ hS.lt (fun e => by
    rcases e with e | e
    · have := hS.ar; omega
    · have := hS.f _ e; omega))
  have kd := tell_any hN h2.gl
  have H2 := hide6 h2 hg hh hr hs hp
  clear hS hf hj h7 h2 kc hg hh hN hr hs hp k8 k9 hn ka kb hm x2 s1
  go_wp2_with fail
  refine kd.mono ?_
  rintro e w3 ⟨rfl, hx⟩
  clear kd
  obtain ⟨h2, hg, hh, hr, hs, hp⟩ := H2.out
  have h3 := h2.below hx
  have h0 := hg.keep (Kds.below hx _) (Nat.le_refl _)
  have h1 : OpAt w3 q0 o (.slice da m dc) := RowC.keep hh (hx.block _ (RowC.lt hh))
  obtain ⟨rb3, rv3, ke⟩ := h0.ref
  have kf := rcopy_any ke hp h0.rel.sl
  have r3 := h3.wbA.cells.2.2.2.2.2.1
  have H3 := hide3 h3 h0 h1
  clear h2 hg hh hr hs hp h3 h0 h1 ke hx
  go_wp2_with fail
  refine kf.mono ?_
  rintro e w4 ⟨rfl, ⟨u4, h8⟩, h9⟩
  clear kf r3
  obtain ⟨h3, h0, h1⟩ := H3.out
  have k6 := rdelete_any h8 H2.out.2.2.2.2.2 h0.rel.sl o.s
  have kg : OpAt w4 q0 o (.slice da m dc) := RowC.keep h1 (h9.block _ (RowC.lt h1))
  have y4 := kg.cells.2.2.1
  obtain ⟨q3, hi⟩ : ∃ q3, w3.heap.size = q3 := ⟨_, rfl⟩
  rw [hi] at k6 h8 ⊢
  have H4 := hide3 h8 h9 hi
  clear h3 h0 h1 kg h8 h9 hi
  go_wp2_with fail
  refine k6.mono ?_
  rintro e w5 kh
  clear k6 y4
  obtain ⟨h8, h9, hi⟩ := H4.out
  obtain ⟨h3, h0, h1⟩ := H3.out
  obtain ⟨kn, ki, ko, Q', kj, h4⟩ := del_by h8 kh H2.out.2.2.2.1 h0.rel H2.out.2.2.2.2.1 (Nat.le_of_eq hi) h9.size
  subst kn
  have ha : Below w3.heap.size w3 w5 := h9.trans ki
  have h5 := h3.below ha
  have k7 := h0.keep (Kds.below ha _) (Nat.le_refl _)
  have hy := h5.wbA
  have r5 := hy.cells.2.2.2.2.2.1
  have f5 := RowC.thaw hy 5
  have hq : MS w0 (w5.setCell ⟨wb, 5, none⟩ (.pointer (some ⟨q3, 0, none⟩))) wb D L G nb (t + 1) := by
   have hW : WbAt (w5.setCell ⟨wb, 5, none⟩ (.pointer (some ⟨q3, 0, none⟩))) wb D L G (.pointer (some ⟨p, 0, none⟩)) (.pointer (some ⟨sa, 0, none⟩)) (.pointer (some ⟨q3, 0, none⟩)) nb out want cache := RowC.set hy 5 [.pointer (some ⟨q3, 0, none⟩)] (by simp [wbL])
   obtain ⟨h6, kp⟩ := h5.write (Outside.setCell (S := fun j => j = wb) _ ⟨wb, 5, none⟩ _ rfl) hW
   have kr : Dc w5 q3 Q' xs' out want := ⟨kj, h4 _ k7.rel, k7.ow⟩
   have ht : t' ≤ t + 1 := by rcases H2.out.2.2.2.1 with ⟨_, e, _⟩ | ⟨_, e, _⟩ | ⟨_, e, _⟩ <;> omega
   exact ⟨_, _, _, _, _, _, _, _, _, _, _, _, _, _, _, _, _, h6, kr.keep kp (Nat.le_refl _), ht⟩
  have HF := hide hq
  clear hq h8 h9 hi h3 h0 h1 ki kj h4 ha h5 k7 hy kh
  go_wp2_with fail
  refine (num_any n _).mono ?_
  rintro e w8 ⟨rfl, rfl⟩
  go_wp2
  go_ret
  exact ⟨rfl, HF.out⟩
end
end
end Go.Proofs.YtpaemkanfnddoaaGreatDoor
