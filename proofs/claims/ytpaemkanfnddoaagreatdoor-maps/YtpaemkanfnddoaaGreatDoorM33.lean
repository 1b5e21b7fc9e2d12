import Derived.Test.YtpaemkanfnddoaaGreatDoorM32
set_option maxRecDepth 100000
set_option maxHeartbeats 8000000
namespace Go.Proofs.YtpaemkanfnddoaaGreatDoor
open Go.RowKit
variable {ops : Array Oper} {Q : Exit → Act → World → Prop} {sh : List (Op × Option Nat × List Nat)} {l : List Nat} {os : List Ob} {lo hi : Nat} {P : Program} {v : Value} {w wr : World}
section
open Go.Deep Gf
structure Pk (w : World) (l : List Nat) (v : Value) (wr : World) : Prop where
 own : wr.ownsRow w.heap.size 5 1 v l.length (bts l)
 some_ : v.ownBlock ≠ none
 below : Below w.heap.size w wr
theorem own_some {base n : Nat} {e : TypeId} {size : Nat} {xs : List Value} (h : w.ownsRow base e size v n xs) (hn : 0 < n) : v.ownBlock ≠ none := by
 rcases h.2 with ⟨_, h0⟩ | ⟨g, cap, cur, e1, _⟩
 · omega
 · rw [e1]; simp [Value.ownBlock]
theorem Pk.out {w' : World} (h : Pk w l v wr) {S : Nat → Prop} (hO : Outside S wr w') (hS : ∀ k, S k → w.heap.size ≤ k) (hv : ∀ k, v.ownBlock = some k → ¬ S k) : Pk w l v w' :=
 ⟨own_keepO h.own hO hv, h.some_, ⟨hO.os.trans h.below.os, hO.tape.trans h.below.tape, hO.output.trans h.below.output, Nat.le_trans h.below.size hO.size, fun k hk => (hO.block k (by have := h.below.size; omega) (fun q => by have := hS k q; omega)).trans (h.below.block k hk)⟩⟩
theorem Pk.num (h : Pk w l v wr) (n s : Nat) (hs : s ≤ 8) (h0 : 0 < s) (hl : l.length ≤ 1000000000) :
 Calls Tryz.prog 133 #[v, .int .u64 n, .int .i64 s] wr fun e w' => ∃ v', e = .returned v' ∧ Pk w (l ++ be n s) v' w' ∧ Outside (fun j => v.ownBlock = some j) wr w' := by
 refine (append_num w.heap.size v l.length (bts l) n s wr h.own h.below.size hs hl).mono ?_
 rintro e w' ⟨v', rfl, ho, hO, h1⟩
 refine ⟨v', rfl, ⟨?_, own_some ho (by omega), ?_⟩, hO⟩
 · rw [bts_append, List.length_append, be_len]; exact ho
 · exact ⟨hO.os.trans h.below.os, hO.tape.trans h.below.tape, hO.output.trans h.below.output, Nat.le_trans h.below.size hO.size, fun k hk => (hO.block k (by have := h.below.size; omega) (fun q => by have := own_ge h.own q; omega)).trans (h.below.block k hk)⟩
theorem hP_size (h : Pk w l v wr) : w.heap.size ≤ wr.heap.size := h.below.size
def PsR (w : World) (pre : List Nat) (st : List Nat) (v i : Value) (wr : World) : Prop := ∃ j : Nat, j ≤ st.length ∧ i = .int .i64 j ∧ Pk w (pre ++ (st.take j).flatMap (fun s => be s 4)) v wr
def PkR (w : World) (os : List Ob) (v i : Value) (wr : World) : Prop := ∃ k : Nat, k ≤ os.length ∧ i = .int .i64 k ∧ Pk w (packL (os.take k)) v wr
def PkPost (w : World) (os : List Ob) (e : Ending) (w' : World) : Prop := ∃ g cap, e = .returned (.slice (some ⟨g, 0, none⟩) (packL os).length cap) ∧ w'.ownsRow w.heap.size 5 1 (.slice (some ⟨g, 0, none⟩) (packL os).length cap) (packL os).length (bts (packL os)) ∧ Below w.heap.size w w'
theorem pack_any {K : Nat → Prop} (hC : Cat K w v os) (hf : ∀ o ∈ os, o.fit) (q6 : os.length ≤ 10000) : Calls Tryz.prog 104 #[v] w fun e w' => PkPost w os e w' := by
 obtain ⟨ib, q7, hy, hz, k0⟩ := info_parts Tryz.infoByteC
 have h5 : ∀ k, k ≤ os.length → (packL (os.take k)).length ≤ k * 5000 := by
  intro k hk
  induction k with
  | zero => simp [packL]
  | succ k ih =>
   have ha : k < os.length := by omega
   have := ih (by omega)
   have h6 := hf _ (List.getElem_mem ha)
   rw [packL_take os k ha, List.length_append, packOb_len h6]
   have := h6.len
   omega
 have kc := length_any hC hf q6
 have hh := h5 os.length (Nat.le_refl _)
 rw [List.take_of_length_le (Nat.le_refl _)] at hh
 obtain ⟨ao, c, rfl, _, h2⟩ := hC
 obtain ⟨N, hN⟩ : ∃ N, os.length = N := ⟨_, rfl⟩
 obtain ⟨M, hM⟩ : ∃ M, (packL os).length = M := ⟨_, rfl⟩
 rw [hM] at kc hh
 have HC := hide5 h2 hf h5 hN hM
 rw [hN] at q6 kc hh ⊢
 clear h2 hf h5 hN hM
 go_enter Tryz.func104, Tryz.ntmps104
 go_wp2_with fail
 refine kc.mono ?_
 rintro e w1 ⟨rfl, kk⟩
 have qo := kk.size
 have H1 := hide kk
 clear kk kc
 go_wp2_with (at_make; refine wpList_make_own w1 rfl (.const (.int .i64 0)) (.tmp 10) 31 rfl w.heap.size 5 ib (.int .u8 0) 1 Tryz.underlying31 q7 hy hz .i64 .i64 _ M (by rfl) (by rfl) rfl (by rw [k0]; omega) (by unfold maxLen; omega) qo ?_; intro w2 q8 q9)
 have qa : Pk w [] (.slice (some ⟨w1.heap.size, 0, none⟩) 0 M) w2 := ⟨q8, by simp [Value.ownBlock], H1.out.grown q9 H1.out.size (fun k e => by cases e)⟩
 have H2 := hide qa
 clear qa q8 q9
 go_loopw [3, 14] (fun v i wr => PkR w os v i wr) (fun _ i _ => N - (intOf i).toNat)
 case atStart => exact ⟨0, Nat.zero_le _, rfl, H2.out⟩
 case round =>
  clear H2
  obtain ⟨k, hk, rfl, hP⟩ := hrel
  rw [HC.out.2.2.2.1] at hk
  by_cases x6 : k < N
  · obtain ⟨h2, hf, h5, hN, hM⟩ := HC.out
    have ha : k < os.length := by omega
    obtain ⟨b, off, rfl, x7, km, qb⟩ := h2 (fun e => by rw [e] at ha; cases ha)
    obtain ⟨sv, c0, c1, c2, hI⟩ := qb k ha
    have h6 := hf _ (List.getElem_mem ha)
    have d0 : wr.cell? ⟨b, off + k * 3, none⟩ = some (.string os[k].name) := (World.cell?_of_block (hP.below.block b km)).trans c0
    have d1 : wr.cell? ⟨b, off + k * 3 + 1, none⟩ = some (.int .i64 (os[k].size : Nat)) := (World.cell?_of_block (hP.below.block b km)).trans c1
    have d2 : wr.cell? ⟨b, off + k * 3 + 2, none⟩ = some sv := (World.cell?_of_block (hP.below.block b km)).trans c2
    have qp := h5 k (by omega)
    have h1 := packL_take os k ha
    obtain ⟨pre, k5⟩ : ∃ pre, packL (os.take k) = pre := ⟨_, rfl⟩
    obtain ⟨o, ho⟩ : ∃ o, os[k] = o := ⟨_, rfl⟩
    rw [k5] at qp hP h1
    rw [ho] at d0 d1 h6 hI h1
    obtain ⟨sao, sc, qq, qs, h3⟩ := hI
    subst qq
    obtain ⟨m, hm⟩ : ∃ m, o.stripes.length = m := ⟨_, rfl⟩
    obtain ⟨nm, k6⟩ : ∃ nm, o.name = nm := ⟨_, rfl⟩
    obtain ⟨sz, k7⟩ : ∃ sz, o.size = sz := ⟨_, rfl⟩
    have kn := h6.name
    have qv := h6.size
    have qx := h6.len
    rw [k6] at d0 kn
    rw [k7] at d1 qv
    rw [hm] at d2 qs qx
    have qy := hP.below.size
    have x8 : ((k : Nat) : Int).toNat = k := by omega
    have ko : Below wr.heap.size wr (wr.alloc (.cells #[.string nm, .int .i64 (sz : Int), .slice sao m sc] 114)) := (Below.refl _ wr).alloc (Nat.le_refl _) _
    have qc : (wr.alloc (.cells #[.string nm, .int .i64 (sz : Int), .slice sao m sc] 114)).heap.size = wr.heap.size + 1 := by simp
    have kp : (wr.alloc (.cells #[.string nm, .int .i64 (sz : Int), .slice sao m sc] 114)).heap[wr.heap.size]? = some (.cells #[.string nm, .int .i64 (sz : Int), .slice sao m sc] 114 (0, 0)) := blk_alloc_new _ _
    obtain ⟨wa, qz⟩ : ∃ wa, wr.alloc (.cells #[.string nm, .int .i64 (sz : Int), .slice sao m sc] 114) = wa := ⟨_, rfl⟩
    rw [qz] at ko qc kp
    have h8 : (wa.alloc (.cells (bts (List.replicate 16 0)).toArray 229)).heap[wa.heap.size]? = some (.cells (bts (List.replicate 16 0)).toArray 229 (0, 0)) := blk_alloc_new _ _
    have kd : Below wa.heap.size wa (wa.alloc (.cells (bts (List.replicate 16 0)).toArray 229)) := (Below.refl _ wa).alloc (Nat.le_refl _) _
    have qd : (wa.alloc (.cells (bts (List.replicate 16 0)).toArray 229)).heap.size = wa.heap.size + 1 := by simp
    obtain ⟨wb, kr⟩ : ∃ wb, wa.alloc (.cells (bts (List.replicate 16 0)).toArray 229) = wb := ⟨_, rfl⟩
    rw [kr] at h8 kd qd
    have hi := (kd.block _ (by omega)).trans kp
    have x0 : wa.alloc (.cells #[.int .u8 0, .int .u8 0, .int .u8 0, .int .u8 0, .int .u8 0, .int .u8 0, .int .u8 0, .int .u8 0, .int .u8 0, .int .u8 0, .int .u8 0, .int .u8 0, .int .u8 0, .int .u8 0, .int .u8 0, .int .u8 0] 229) = wb := kr
    have hr : Pk w pre u3 wb := (hP.out (Outside.of_all ko (fun _ => False)) (fun _ h => h.elim) (fun _ _ h => h)).out (Outside.of_all kd (fun _ => False)) (fun _ h => h.elim) (fun _ _ h => h)
    have HS := hide7 h3 h6 h1 ho hm k6 k7
    have HB := hide4 hr hi h8 qd
    clear hP h2 hf h5 hN hM qb c0 c1 c2 h3 h6 h1 ho hm k6 k7 hr hi h8 kr kp ko kd k5
    go_wp2_with fail
    obtain ⟨hr, hi, h8, k8⟩ := HB.out
    rw [qc] at h8 k8
    obtain ⟨q, hq⟩ : ∃ q, wr.heap.size = q := ⟨_, rfl⟩
    rw [hq] at hi h8 k8 qy
    refine pack_region6 (s := nm) (q := wr.heap.size) (g := wr.heap.size + 1) kn.2 (by rw [hq]; exact h8) (by rw [hq]; simp [World.cell?, hi]) (by omega) (by kernel_rfl) rfl rfl rfl ?_
    intro w6 ke
    rw [hq] at ke ⊢
    have kf : Outside (fun k => k = q + 1) wb w6 := by
     rw [ke]
     have hg := grown_setRow' wb.drew (q + 1) (bts (nameB nm)).toArray
     exact ⟨hg.os, hg.tape, hg.output, hg.size, fun k hk x1 => hg.block k hk (fun e => x1 (Option.some.inj e))⟩
    have hn : Pk w pre u3 w6 := hr.out kf (fun k hk => by omega) (fun k hk e => own_apart hr.own h8 (by decide) (by rw [hk, e]))
    have hp := (kf.block q (by omega) (by omega)).trans hi
    have hs : w6.heap[q + 1]? = some (.cells (bts (nameB nm)).toArray 229 (0, 0)) := by rw [ke]; exact setRow_heap _ _ _ _ _ _ h8
    have x9 := kf.size
    have q0 : w6.cell? ⟨q, 0, none⟩ = some (.string nm) := by simp [World.cell?, hp]
    have qe := hn.num nm.size 1 (by omega) (by omega) (by omega)
    have H6 := hide4 hn hp hs qe
    have x2 : nm.size ≤ 16 := kn.2
    clear hr hi h8 kf hn hp hs qe ke d0 d1 d2
    rename_i qf
    refine qf _ _ ?_
    clear qf
    simp only [Act.putFrom, Act.put, List.setIfInBounds_toArray, List.set_cons_succ, List.set_cons_zero]
    go_wp2_with fail
    refine H6.out.2.2.2.mono ?_
    rintro e w7 ⟨v7, rfl, ks, kg⟩
    obtain ⟨hn, hp, hs, hx⟩ := H6.out
    clear hx
    have qg := (kg.block q (by omega) (fun e => own_apart hn.own hp (by decide) e)).trans hp
    have kv := (kg.block (q + 1) (by omega) (fun e => own_apart hn.own hs (by decide) e)).trans hs
    have xa := kg.size
    have kh : (pre ++ be nm.size 1).length = pre.length + 1 := by rw [List.length_append, be_len]
    have ki : (nameB nm).length = 16 := nameB_len x2
    have he : Src Tryz.prog 1 31 (.slice (some ⟨q + 1, 0, none⟩) 16 16) 16 (bts (nameB nm)) w7 := Src.ofSlice w7 Tryz.underlying31 ⟨q + 1, 0, none⟩ 16 16 (bts (nameB nm)) (by rw [bts_len, ki]) (fun i u hu => by
     have h9 : w7.cell? ⟨q + 1, i, none⟩ = some u := by simp [World.cell?, kv]; simpa using hu
     unfold Addr.add; split
     · rename_i h0; subst h0; exact h9
     · rw [Nat.zero_add]; exact h9) (fun u hu => by obtain ⟨x, _, rfl⟩ := List.mem_map.1 hu; rfl)
    have h7 := ks.own
    rw [kh] at h7
    have H7 := hide5 ks qg kv he h7
    clear hn hp hs ks kg qg kv he h7 q0
    have qh := hP_size H7.out.1
    go_wp2_with (show wpList _ _ _ ({ dst := some 30, op := _, type := _, pos := _, after := _, guard := _ } :: _) _ _; refine wpList_append_from _ rfl (.tmp 28) (.tmp 29) 31 31 rfl w.heap.size 5 ib (.int .u8 0) 1 1 Tryz.underlying31 q7 hy hz k0 rfl v7 (pre.length + 1) (bts (pre ++ be nm.size 1)) (by rfl) (by exact H7.out.2.2.2.2) _ (by rfl) 16 (bts (nameB nm)) (by exact H7.out.2.2.2.1) (by unfold maxLen; omega) (by omega) (by exact qh) ?_; intro v8 w8 kx kj ky; have kz : w8.heap[q]? = some (.cells #[.string nm, .int .i64 (sz : Int), .slice sao m sc] 114 (0, 0)) := (kj.block q (by omega) (fun e => own_apart H7.out.1.own H7.out.2.1 (by decide) e.symm)).trans H7.out.2.1; have q1 : w8.cell? ⟨q, 1, none⟩ = some (.int .i64 (sz : Int)) := (by simp [World.cell?, kz]); have qi : Pk w ((pre ++ be nm.size 1) ++ nameB nm) v8 w8 := ⟨(by rw [bts_append, List.length_append, kh, ki]; exact kx), own_some kx (by omega), H7.out.1.below.grown kj qh (fun j e => own_ge H7.out.1.own e)⟩; have xb := kj.size; have H8 := hide2 qi kz; clear kx kj ky kz qi)
    refine (H8.out.1.num sz 2 (by omega) (by omega) (by rw [List.length_append, kh, ki]; omega)).mono ?_
    rintro e w9 ⟨v9, rfl, q3, qj⟩
    have qk := (qj.block q (by omega) (fun e => own_apart H8.out.1.own H8.out.2 (by decide) e)).trans H8.out.2
    have q2 : w9.cell? ⟨q, 2, none⟩ = some (.slice sao m sc) := by simp [World.cell?, qk]
    obtain ⟨pre9, h4⟩ : ∃ pre9, pre ++ be nm.size 1 ++ nameB nm ++ be sz 2 = pre9 := ⟨_, rfl⟩
    have xc : pre9.length = pre.length + 19 := by rw [← h4, List.length_append, List.length_append, kh, ki, be_len]
    rw [h4] at q3
    have H9 := hide2 q3 h4
    clear q3 qj qk q1 h4
    go_wp2_with fail
    go_loopw [3, 39] (fun v i wr' => PsR w pre9 o.stripes v i wr') (fun _ i _ => m - (intOf i).toNat)
    case atStart => exact ⟨0, Nat.zero_le _, rfl, by rw [List.take_zero, List.flatMap_nil, List.append_nil]; exact H9.out.1⟩
    case round =>
     obtain ⟨j, hj, rfl, hP⟩ := hrel
     rw [HS.out.2.2.2.2.1] at hj
     by_cases xd : j < m
     · obtain ⟨h3, h6, h1, ho, hm, _, _⟩ := HS.out
       have k9 : j < o.stripes.length := by omega
       obtain ⟨sb, so, rfl, _, q4, ka⟩ := h3 (fun e => by rw [e] at k9; cases k9)
       have cs := (World.cell?_of_block (hP.below.block sb q4)).trans (ka j k9)
       have x3 := h6.st _ (List.getElem_mem k9)
       have kb : ((o.stripes.take j).flatMap (fun s => be s 4)).length = 4 * j := by rw [flat4_len, List.length_take]; omega
       have qm : pre9 ++ (o.stripes.take (j + 1)).flatMap (fun s => be s 4) = (pre9 ++ (o.stripes.take j).flatMap (fun s => be s 4)) ++ be o.stripes[j] 4 := by
        rw [List.take_add_one, List.getElem?_eq_getElem k9, List.flatMap_append, List.append_assoc]
        simp
       have hc := hP.num o.stripes[j] 4 (by omega) (by omega) (by rw [List.length_append, kb]; omega)
       rw [← qm] at hc
       obtain ⟨x, hx⟩ : ∃ x, o.stripes[j] = x := ⟨_, rfl⟩
       rw [hx] at cs x3 hc
       have HP := hide hc
       clear hP h3 h6 h1 ho hm ka hc qm hx kb
       go_wp2_with fail
       refine HP.out.mono ?_
       rintro e wj ⟨vj, rfl, qn, _⟩
       have Hj := hide qn
       clear qn
       go_wp2
       go_roundw
       case rel => exact ⟨j + 1, by have := HS.out.2.2.2.2.1; omega, by go_num, Hj.out⟩
       case measure => simp [intOf]; omega
     · have x4 : j = m := by omega
       have Hq := hide hP
       clear hP
       go_wp2
       go_roundw
       case rel =>
        refine ⟨k + 1, by have := HC.out.2.2.2.1; omega, by go_num, ?_⟩
        obtain ⟨_, _, h1, _, hm, k6, k7⟩ := HS.out
        have q5 := Hq.out
        rw [List.take_of_length_le (by omega), ← H9.out.2] at q5
        rw [h1]
        unfold packOb
        rw [k6, k7]
        simp only [List.append_assoc] at q5 ⊢
        exact q5
       case measure => simp [intOf]; omega
  · have x5 : k = N := by omega
    subst x5
    have H := hide hP
    clear hP
    go_wp2
    go_ret
    have hP := H.out
    obtain ⟨_, _, _, hN, hM⟩ := HC.out
    rw [List.take_of_length_le (by omega)] at hP
    rcases hP.own.2 with ⟨h0, _⟩ | ⟨g, cap, cur, e1, _⟩
    · exact absurd (by rw [h0]; rfl) hP.some_
    · have ho := hP.own
      rw [e1] at ho
      exact ⟨g, cap, by rw [← e1]; rfl, ho, hP.below⟩
theorem packOk_any {vo : Value} (hC : Cat (fun k => k < w.heap.size) w vo os) (hf : ∀ o ∈ os, o.fit) (h0 : os.length ≤ 10000) : PackOk w vo (packL os) := fun _ hW => pack_any (hC.keep ⟨hW.size, fun k hk _ => hW.block k hk⟩) hf h0
end
def StepOkT (P : Program) (Q : Exit → Act → World → Prop) (lo hi : Nat) (sh : List (Op × Option Nat × List Nat)) (a0 : Act) (V : Nat → Value → World → Prop) (B : (Nat → Bool) → World → Prop) (i : Nat) : Prop :=
 ∀ (o : Oper) (a : Act) (w : World) (D : Nat → Bool), o.guard = none → o.op = (shAt sh i).1 → o.dst = (shAt sh i).2.1 → Framed lo hi a0 a → (∀ s, (∀ i, i < sh.length → (shAt sh i).2.1 ≠ some s) → a.eval (.tmp s) = a0.eval (.tmp s)) → D i = false → (∀ j, D j = true → j < sh.length ∧ ∀ k ∈ (shAt sh j).2.2, D k = true) →
  (∀ k ∈ (shAt sh i).2.2, D k = true) → B D w → (∀ j, D j = true → V j (slotD (shAt sh j).2.1 a) w) →
  o.wp P a w (fun a' w' => ∃ v, a' = a.put o.dst v ∧ (o.dst = none → v = undef) ∧ B (upd D i) w' ∧ V i v w' ∧ ∀ j u, D j = true → V j u w → V j u w') Q
theorem any_factsST (h7 : RegShape ops lo hi sh) (a0 : Act) (hp : hi ≤ a0.tmps.size)
 (V : Nat → Value → World → Prop) (B : (Nat → Bool) → World → Prop) (ha : ∀ i, i < sh.length → StepOkT P Q lo hi sh a0 V B i)
 (hg : ∀ (a : Act) (w : World), Framed lo hi a0 a → (∀ s, (∀ i, i < sh.length → (shAt sh i).2.1 ≠ some s) → a.eval (.tmp s) = a0.eval (.tmp s)) → (∃ D, (∀ i, i < sh.length → D i = true) ∧ B D w) → (∀ i, i < sh.length → V i (slotD (shAt sh i).2.1 a) w) → Q .normal a w) :
 ∀ (f : Nat) (listed : Array Bool) (a : Act) (w : World), listed.size = sh.length → toCome listed = f → Framed lo hi a0 a → (∀ s, (∀ i, i < sh.length → (shAt sh i).2.1 ≠ some s) → a.eval (.tmp s) = a0.eval (.tmp s)) → (∀ j, listed.getD j false = true → j < sh.length ∧ ∀ k ∈ (shAt sh j).2.2, listed.getD k false = true) → B (fun j => listed.getD j false) w →
  (∀ i, listed.getD i false = true → V i (slotD (shAt sh i).2.1 a) w) → wpAny P .any ops Q f listed a w := by
 have k6 := h7.size
 have h6 : ∀ listed : Array Bool, listed.size = sh.length → toCome listed ≠ 0 → Region.ready .any ops listed ≠ [] := by
  intro listed hl hc hr
  have hh : ∀ i, i < sh.length → listed.getD i false = true := by
   intro i
   induction i using Nat.strongRecOn with
   | ind i ih =>
    intro h0
    by_cases hd : listed.getD i false = true
    · exact hd
    · exfalso
      have hm : i ∈ Region.ready .any ops listed := ready_iff.2 ⟨by omega, by simpa [Array.getD_eq_getD_getElem?, show i < listed.size by omega] using hd, fun k hk => by
       obtain ⟨o, _, _, _, _, e⟩ := h7.get i h0
       rw [e] at hk
       have := h7.early i h0 k hk
       exact ih k this (by omega)⟩
      rw [hr] at hm
      cases hm
  apply hc
  unfold toCome
  rw [List.length_eq_zero_iff, List.filter_eq_nil_iff]
  intro b hb
  obtain ⟨i, h0, rfl⟩ := List.getElem_of_mem hb
  have hq : i < listed.size := by simpa using h0
  have := hh i (by omega)
  simp [Array.getD_eq_getD_getElem?, hq] at this
  simp [this]
 intro f
 induction f with
 | zero =>
  intro listed a w hl hc hk h4 hf hB hV
  refine ⟨?_, hg a w hk h4 ⟨_, fun i h0 => toCome_zero hc i (by omega), hB⟩ fun i h0 => hV i (toCome_zero hc i (by omega))⟩
  rw [List.eq_nil_iff_forall_not_mem]
  intro i hm
  obtain ⟨h1, h2, _⟩ := ready_iff.1 hm
  have := toCome_zero hc i (by omega)
  simp [Array.getD_eq_getD_getElem?, show i < listed.size by omega] at this h2
  rw [this] at h2
  cases h2
 | succ f ih =>
  intro listed a w hl hc hk h4 hf hB hV
  refine ⟨fun e => absurd e (h6 listed hl (by omega)), fun i hm => ?_⟩
  obtain ⟨h1, h2, h3⟩ := ready_iff.1 hm
  have h0 : i < sh.length := by omega
  have hn : i < listed.size := by omega
  obtain ⟨o, e1, e2, e3, e4, e5⟩ := h7.get i h0
  have hx : listed.getD i false = false := by simpa [Array.getD_eq_getD_getElem?, hn] using h2
  have h5 : ∀ j, (listed.setIfInBounds i true).getD j false = upd (fun j => listed.getD j false) i j := by
   intro j
   unfold upd
   by_cases ej : j = i
   · subst ej
     rw [if_pos rfl]
     simp [Array.getD_eq_getD_getElem?, hn]
   · rw [if_neg ej, Array.getD_eq_getD_getElem?, Array.getElem?_setIfInBounds, if_neg (fun q : i = j => ej q.symm), ← Array.getD_eq_getD_getElem?]
  unfold wpOp
  rw [e1]
  show if Region.wanted o (yielded ops a.tmps) = true then _ else _
  rw [if_pos (by simp [Region.wanted, e4])]
  refine .inl (Oper.wp_mono (fun a' w' h => ?_) (ha i h0 o a w (fun j => listed.getD j false) e4 e2 e3 hk h4 hx hf (fun k h8 => ?_) hB hV))
  · obtain ⟨v, rfl, hu, hy, hz, k0⟩ := h
    have he : ∀ d, o.dst = some d → lo ≤ d ∧ d < hi := fun d hd => by rw [e3] at hd; exact (h7.slots i i d h0 h0 hd).1
    refine ih _ _ _ (by simpa using hl) (by have := toCome_set h2; omega) (hk.put v he) (fun s hs => ?_) (fun j hj => ?_) ?_ fun j h9 => ?_
    · refine Eq.trans ?_ (h4 s hs)
      cases hd : o.dst with
      | none => rfl
      | some d => exact rf_other _ _ _ _ (fun e => hs i h0 (by rw [show (shAt sh i).2.1 = o.dst from e3.symm, hd, e]))
    · rw [h5] at hj
      unfold upd at hj
      by_cases ej : j = i
      · subst ej
        refine ⟨h0, fun k h8 => ?_⟩
        rw [h5]; unfold upd
        by_cases ek : k = j
        · rw [if_pos ek]
        · rw [if_neg ek]; rw [← e5] at h8; exact h3 k h8
      · rw [if_neg ej] at hj
        obtain ⟨q1, q2⟩ := hf j hj
        refine ⟨q1, fun k h8 => ?_⟩
        rw [h5]; unfold upd
        by_cases ek : k = i
        · rw [if_pos ek]
        · rw [if_neg ek]; exact q2 k h8
    · have e : (fun j => (listed.setIfInBounds i true).getD j false) = upd (fun j => listed.getD j false) i := funext h5
      rw [e]; exact hy
    · rw [h5] at h9
      unfold upd at h9
      by_cases ej : j = i
      · subst ej
        have : slotD (shAt sh j).2.1 (a.put o.dst v) = v := by
         show slotD (sh.getD j (.move (.const undef), none, [])).2.1 (a.put o.dst v) = v
         rw [← e3]
         cases hd : o.dst with
         | none => exact (hu hd).symm
         | some d => exact rf_same _ _ _ (Nat.lt_of_lt_of_le (he d hd).2 (by rw [hk.size]; exact hp))
        rw [this]; exact hz
      · rw [if_neg ej] at h9
        have : slotD (shAt sh j).2.1 (a.put o.dst v) = slotD (shAt sh j).2.1 a := by
         cases k5 : (shAt sh j).2.1 with
         | none => rfl
         | some d' =>
          cases hd : o.dst with
          | none => rfl
          | some d =>
           refine rf_other _ _ _ _ fun q => ej ?_
           subst q
           rw [e3] at hd
           exact (h7.slots j i d (hf j h9).1 h0 k5).2 hd
        rw [this]
        exact k0 j _ h9 (hV j h9)
  · exact h3 k (by rw [e5]; exact h8)
theorem region_factsST {m : Nat} (hm : P.follows .mixedOrders = true) (h3 : RegShape ops lo hi sh) (a0 : Act) (w0 : World) (h4 : hi ≤ a0.tmps.size)
 (V : Nat → Value → World → Prop) (B : (Nat → Bool) → World → Prop) (hB : B (fun _ => false) w0.drew) (h1 : ∀ i, i < sh.length → StepOkT P Q lo hi sh a0 V B i)
 (h2 : ∀ (a : Act) (w : World), Framed lo hi a0 a → (∀ s, (∀ i, i < sh.length → (shAt sh i).2.1 ≠ some s) → a.eval (.tmp s) = a0.eval (.tmp s)) → (∃ D, (∀ i, i < sh.length → D i = true) ∧ B D w) → (∀ i, i < sh.length → V i (slotD (shAt sh i).2.1 a) w) → Q .normal a w) : (Code.region m ops true).wp P Q a0 w0 := by
 refine wp_region_any hm ?_
 have h5 := h3.size
 have h0 : ∀ i, (Array.replicate ops.size false).getD i false = false := fun i => by
  simp only [Array.getD_eq_getD_getElem?, Array.getElem?_replicate]
  split <;> rfl
 refine any_factsST h3 a0 h4 V B h1 h2 _ _ a0 w0.drew (by simp [h5]) ?_ (Framed.refl _ _ _) (fun _ _ => rfl) (fun j hj => ?_) ?_ fun i h => ?_
 · unfold toCome
   simp
 · rw [h0] at hj; cases hj
 · have e : (fun j => (Array.replicate ops.size false).getD j false) = fun _ => false := funext h0
   rw [e]; exact hB
 · rw [h0] at h; cases h
end Go.Proofs.YtpaemkanfnddoaaGreatDoor
