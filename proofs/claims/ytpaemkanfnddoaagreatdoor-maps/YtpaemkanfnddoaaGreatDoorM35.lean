import Derived.Test.YtpaemkanfnddoaaGreatDoorM34
import Derived.Laws.IdiomStrings
set_option maxRecDepth 100000
set_option maxHeartbeats 8000000
namespace Go.Proofs.YtpaemkanfnddoaaGreatDoor
open Go.RowKit Go.Deep Gf
variable {l : List Nat} {os : List Ob} {b off bl c base k : Nat} {sv : Nat → Value} {o : Ob} {v : Value} {w : World}
theorem Bs.sub (h : Bs w (.slice (some ⟨b, off, none⟩) bl c) l) (i n c' : Nat) (hi : i + n ≤ l.length) (hc : n ≤ c') : Bs w (.slice (some ⟨b, off + i, none⟩) n c') ((l.drop i).take n) := by
 obtain ⟨ao, c0, e, h1, h2, h3, h4⟩ := h
 injection e with e1 e2 e3
 have hl : ((l.drop i).take n).length = n := by rw [List.length_take, List.length_drop]; omega
 refine ⟨some ⟨b, off + i, none⟩, c', by rw [hl], by rw [hl]; exact hc, by rw [hl]; omega, fun x hx => h3 x (List.mem_of_mem_drop (List.mem_of_mem_take hx)), fun h5 => ⟨b, off + i, rfl, fun k hk => ?_⟩⟩
 rw [hl] at hk
 obtain ⟨b', o', e', h0⟩ := h4 (fun q => by rw [q] at hi; simp at hi; omega)
 rw [← e1] at e'
 injection e' with e'
 injection e' with e5 e6
 subst e5 e6
 have := h0 (i + k) (by omega)
 rw [Nat.add_assoc, this]
 congr 3
 rw [List.getD_eq_getElem?_getD, List.getD_eq_getElem?_getD, List.getElem?_take_of_lt hk, List.getElem?_drop]
theorem drop_pre (a b : List Nat) (n k : Nat) (h : a.length = n) : (a ++ b).drop (n + k) = b.drop k := by
 subst h
 rw [← List.drop_drop, List.drop_left]
theorem pack_at0 (ho : o.fit) (rest : List Nat) : (packOb o ++ rest).getD 0 0 = o.name.size := by
 unfold packOb
 have : be o.name.size 1 = [o.name.size] := by
  have := ho.name.2
  simp [be]
  omega
 rw [this]; rfl
theorem pack_name (o : Ob) (rest : List Nat) : ((packOb o ++ rest).drop 1).take o.name.size = o.name.toList.map (fun (b : UInt8) => b.toNat) := by
 have h1 : (be o.name.size 1).length = 1 := be_len _ _
 have h0 : (o.name.toList.map (fun (b : UInt8) => b.toNat)).length = o.name.size := by
  rw [List.length_map, ByteArray.toList_eq, Array.length_toList]; rfl
 unfold packOb nameB
 simp only [List.append_assoc]
 rw [List.drop_append_of_le_length (by omega), List.drop_of_length_le (by omega), List.nil_append, List.take_append_of_le_length (by omega), List.take_of_length_le (by omega)]
theorem pack_size (ho : o.fit) (rest : List Nat) : ((packOb o ++ rest).drop 17).take 2 = be o.size 2 := by
 have h1 : (be o.name.size 1 ++ nameB o.name).length = 17 := by rw [List.length_append, be_len, nameB_len ho.name.2]
 unfold packOb
 rw [List.append_assoc, List.append_assoc, List.drop_append_of_le_length (by omega), List.drop_of_length_le (by omega), List.nil_append, List.take_append_of_le_length (by rw [be_len]; exact Nat.le_refl _), List.take_of_length_le (by rw [be_len]; exact Nat.le_refl _)]
theorem flat4_at (l : List Nat) (j : Nat) (hj : j < l.length) (r : List Nat) : ((l.flatMap (fun s => be s 4) ++ r).drop (4 * j)).take 4 = be l[j] 4 := by
 induction l generalizing j with
 | nil => cases hj
 | cons x l ih =>
  cases j with
  | zero => rw [List.flatMap_cons, Nat.mul_zero, List.drop_zero, List.append_assoc, List.take_append_of_le_length (by rw [be_len]; exact Nat.le_refl _), List.take_of_length_le (by rw [be_len]; exact Nat.le_refl _)]; rfl
  | succ j =>
   rw [List.flatMap_cons, show 4 * (j + 1) = 4 + 4 * j by omega, List.append_assoc, drop_pre _ _ 4 (4 * j) (be_len _ _)]
   exact ih j (by simpa using hj)
theorem head_len (ho : o.fit) : (be o.name.size 1 ++ nameB o.name ++ be o.size 2).length = 19 := by rw [List.length_append, List.length_append, be_len, be_len, nameB_len ho.name.2]
theorem pack_stripe (ho : o.fit) (rest : List Nat) (j : Nat) (hj : j < o.stripes.length) : ((packOb o ++ rest).drop (19 + 4 * j)).take 4 = be o.stripes[j] 4 := by
 have h1 := head_len ho
 unfold packOb
 rw [List.append_assoc, drop_pre _ _ 19 (4 * j) h1, flat4_at _ _ hj]
theorem pack_rest (ho : o.fit) (rest : List Nat) : (packOb o ++ rest).drop (19 + 4 * o.stripes.length) = rest := by
 rw [← packOb_len ho, List.drop_append_of_le_length (Nat.le_refl _), List.drop_of_length_le (Nat.le_refl _), List.nil_append]
def zOb : Array Value := #[.string ⟨#[]⟩, .int .i64 0, .slice none 0 0]
theorem ob_store {ops : Array Oper} {rest : List Oper} {o : Oper} {a : Act} {Q : Exit → Act → World → Prop} (hg : o.guard = none) (x y : Operand) (ho : o.op = .store 114 x y) {b : Nat} {cs cs' : Array Value}
 (hx : a.eval x = .pointer (some ⟨b, 0, none⟩)) (hy : a.eval y = .agg cs') (hb : w.heap[b]? = some (.cells cs 114 (0, 0))) (hc : cs.size = 3) (h2 : cs'.size = 3) (h1 : cs'.all (·.oneCell') = true) (h : wpList Tryz.prog ops Q rest (a.put o.dst undef) (w.setRow b cs')) : wpList Tryz.prog ops Q (o :: rest) a w := by
 have h0 : (Tryz.prog.info? 114).map (·.size) = some 3 := by kernel_rfl
 have h3 : (Instr.storeAt 114 (.pointer (some ⟨b, 0, none⟩)) (.agg cs')).run Tryz.prog w = .ok () (w.setRow b cs') := by
  simp only [Instr.storeAt, Instr.sureAddr, Sem.run_bind, Sem.run_pure, Result.andThen_ok, run_storeVar_row w b 114 114 cs cs' hb (by rw [h2]; exact h0) (by rw [hc, h2]) h1]
 refine wpList_plain hg fun K hK => ?_
 unfold Oper.wp
 simp [execOp, ho, hx, hy, h3, Result.andThen]
 exact hK _ _ h
theorem results_mix {P : Program} {fn : Func} {p t u : Tmp} {ty : TypeId} (h : fn.results = #[.cell p ty, .tmp t, .tmp u]) (tmps : Array Value) (w : World) (g : Nat) (tt : TypeId) (cs : Array Value) (fr : Nat × Nat) (d : TypeDesc) (x y : Value)
 (hp : tmps.getD p undef = .pointer (some ⟨g, 0, none⟩)) (hx : tmps.getD t undef = x) (hy : tmps.getD u undef = y) (hg : w.heap[g]? = some (.cells cs tt fr)) (hu : P.underlying ty = some d) (hd : (match d with | .struct _ | .array _ _ => true | _ => false) = true) (hi : (P.info? ty).map (·.size) = some cs.size) :
 (results fn tmps).run P w = .ok (.tuple #[.agg cs, x, y]) w := by
 have h0 : tmps[p]?.getD undef = .pointer (some ⟨g, 0, none⟩) := by simpa using hp
 have h1 : tmps[t]?.getD undef = x := by simpa using hx
 have h2 : tmps[u]?.getD undef = y := by simpa using hy
 simp [results, h, h0, h1, h2, asAddr, run_loadVar_row w g tt ty cs fr d hg hu hd hi]
def UoR (w : World) (nm : ByteArray) (sz : Nat) (st : List Nat) (i : Value) (wr : World) : Prop := ∃ (j : Nat) (sv : Value), j ≤ st.length ∧ i = .int .i64 j ∧ wr.heap[w.heap.size]? = some (.cells #[.string nm, .int .i64 (sz : Int), sv] 114 (0, 0)) ∧ wr.ownsRow w.heap.size 3 1 sv j (ivs (st.take j)) ∧ Below w.heap.size w wr
structure UoPost (w : World) (b off bl c : Nat) (o : Ob) (rest : List Nat) (e : Ending) (w' : World) : Prop where
 out : ∃ sa sc bv, e = .returned (.tuple #[.agg #[.string o.name, .int .i64 (o.size : Nat), .slice sa o.stripes.length sc], bv, .bool true]) ∧ Ints (fun k => w.heap.size ≤ k) w' (.slice sa o.stripes.length sc) o.stripes ∧ ∀ w0, Bs w0 (.slice (some ⟨b, off, none⟩) bl c) (packOb o ++ rest) → Bs w0 bv rest
 below : Below w.heap.size w w'
theorem unpackObject_ok {rest : List Nat} (ss : Nat) (hB : Bs w (.slice (some ⟨b, off, none⟩) bl c) (packOb o ++ rest)) (hc : bl = (packOb o ++ rest).length) (ho : o.fit) (qk : 1 ≤ ss ∧ ss ≤ 1000000) (k0 : o.stripes.length = max 1 ((o.size + ss - 1) / ss)) (hr : rest.length ≤ 100000000) :
 Calls Tryz.prog 168 #[.slice (some ⟨b, off, none⟩) bl c, .int .i64 ss] w fun e w' => UoPost w b off bl c o rest e w' := by
 have h7 : bl = 19 + 4 * o.stripes.length + rest.length := by rw [hc, List.length_append, packOb_len ho]
 have kd := ho.len
 have qm := ho.name
 have kj := ho.size
 obtain ⟨ao, c0, e0, ke, _, hx, hh⟩ := id hB
 injection e0 with e1 e2 e3
 subst e3
 rw [← hc] at ke hh
 obtain ⟨b', o', e', qa⟩ := hh (fun q => by rw [q] at hc; simp at hc; omega)
 rw [← e1] at e'
 injection e' with e'
 injection e' with e5 e6
 subst e5 e6
 clear e1 e2
 have d0 := qa 0 (by omega)
 rw [Nat.add_zero, pack_at0 ho] at d0
 have kf : (w.alloc (.cells zOb 114)).heap[w.heap.size]? = some (.cells zOb 114 (0, 0)) := blk_alloc_new _ _
 have k7 : Below w.heap.size w (w.alloc (.cells zOb 114)) := (Below.refl _ w).alloc (Nat.le_refl _) _
 have k8 : (w.alloc (.cells zOb 114)).heap.size = w.heap.size + 1 := by simp
 obtain ⟨w1, ks⟩ : ∃ w1, w.alloc (.cells zOb 114) = w1 := ⟨_, rfl⟩
 rw [ks] at kf k7 k8
 have qn : w.alloc (.cells #[.string ⟨#[]⟩, .int .i64 0, .slice none 0 0] 114) = w1 := ks
 have qo : b < w.heap.size := block_lt_of_cell d0
 have c1 : w1.cell? ⟨b, off, none⟩ = some (.int .u8 (o.name.size : Nat)) := (World.cell?_of_block (k7.block b qo)).trans d0
 have kg := hB.mono k7
 obtain ⟨m, hm⟩ : ∃ m, o.stripes.length = m := ⟨_, rfl⟩
 obtain ⟨sz, hy⟩ : ∃ sz, o.size = sz := ⟨_, rfl⟩
 obtain ⟨nn, hz⟩ : ∃ nn, o.name.size = nn := ⟨_, rfl⟩
 have kv := of_num (.slice (some ⟨b, off + 17, none⟩) 2 (c - 17)) (be o.size 2) w1 (by rw [← pack_size ho rest]; exact kg.sub 17 2 _ (by omega) (by omega))
 rw [ofB_be o.size 2 (by omega) (by omega), hy] at kv
 have ko := stripesOf_any sz ss (by omega) qk w1
 rw [← hy, ← k0, hm] at ko
 rw [hy] at ko
 rw [hm] at h7 kd
 rw [hz] at c1 qm
 have kx := packed_any m (by omega) w1
 obtain ⟨lo, kh⟩ : ∃ lo, 19 + 4 * m = lo := ⟨_, rfl⟩
 rw [kh] at h7 kx
 have x6 : ¬ ((bl : Nat) : Int) < 19 := by omega
 have x7 : ¬ c - 17 = 0 := by omega
 have qp : ¬ c = 17 := by omega
 have x8 : ¬ ((nn : Nat) : Int) < 1 := by omega
 have x9 : ¬ ((nn : Nat) : Int) > 16 := by omega
 have xa : ¬ ((sz : Nat) : Int) > 1500 := by omega
 have xb : ¬ ((bl : Nat) : Int) < (lo : Int) := by omega
 have xc : IntKind.i64.wrap (nn : Int) = nn := by rw [IntKind.wrap_i64]; omega
 have H := hide13 kv ko kx kg kf k7 k8 hm hy hz hB hc k0
 have HL := hide5 h7 kh kd kj ke
 have qq : 19 ≤ bl := by omega
 have qs : 19 ≤ c := by omega
 clear h7 kh kd kj ke
 clear kv ko kx kg kf k7 k8 hm hy hz hB hc k0 hh qa ks d0 hx
 go_enter Tryz.func168, Tryz.ntmps168
 go_wp2_with fail
 refine H.out.1.mono ?_
 rintro e w2 ⟨rfl, k5⟩
 obtain rfl : w1 = w2 := k5.symm
 clear k5
 have xd : IntKind.i64.wrap (sz : Int) = sz := by have := HL.out.2.2.2.1; have := H.out.2.2.2.2.2.2.2.2.1; rw [IntKind.wrap_i64]; omega
 go_wp2_with fail
 refine H.out.2.1.mono ?_
 rintro e w2 ⟨rfl, k5⟩
 obtain rfl : w1 = w2 := k5.symm
 clear k5
 go_wp2_with fail
 refine H.out.2.2.1.mono ?_
 rintro e w2 ⟨rfl, k5⟩
 obtain rfl : w1 = w2 := k5.symm
 clear k5
 obtain ⟨_, _, _, kg, kf, k7, k8, hm, hy, hz, hB, hc, k0⟩ := H.out
 have qb : (convert 31 9 (.slice (some ⟨b, off + 1, none⟩) nn (c - 1))).run Tryz.prog w1 = .ok (.string o.name) w1 := by
  have qc : o.name.toList.length = nn := by rw [ByteArray.toList_eq, Array.length_toList, ← hz]; rfl
  have kk := kg.sub 1 nn (c - 1) (by rw [← hc]; omega) (by omega)
  rw [← hz, pack_name o rest] at kk
  obtain ⟨ao, cc, e1, _, _, _, h4⟩ := kk
  injection e1 with e1 e2 e3
  have kp : o.name.toList.map (fun (b : UInt8) => b.toNat) ≠ [] := fun e => by
   have := congrArg List.length e
   rw [List.length_map, qc] at this
   simp at this
   omega
  obtain ⟨b', o', e', qv⟩ := h4 kp
  rw [← e1] at e'
  injection e' with e'
  injection e' with e5 e6
  subst e5 e6
  have := run_convert_bytes_back (P := Tryz.prog) w1 31 9 5 ⟨b, off + 1, none⟩ (c - 1) o.name.toList Tryz.underlying31 Tryz.underlying5 Tryz.underlying9 (fun j hj => by
   have h9 := qv j (by rw [List.length_map]; exact hj)
   have h8 : (o.name.toList.map (fun (b : UInt8) => b.toNat)).getD j 0 = (o.name.toList[j]).toNat := by
    rw [List.getD_eq_getElem?_getD, List.getElem?_map, List.getElem?_eq_getElem hj]; rfl
   rw [h8] at h9
   unfold Addr.add
   split
   · rename_i h0; subst h0; exact h9
   · exact h9)
  rw [qc] at this
  rw [this]
  congr 2
  rw [ByteArray.toList_eq]
 clear kg hB hc k0 hm hy hz k7
 have qx : ¬ c = 1 := by omega
 have qy := k8
 have HQ := hide2 kf k8
 clear kf k8 qy
 obtain ⟨nm, ky⟩ : ∃ nm, o.name = nm := ⟨_, rfl⟩
 rw [ky] at qb
 have xe : 1 + nn ≤ c := by omega
 go_wp2_with (show wpList _ _ _ ({ dst := none, op := Op.store 114 (.tmp 4) (.tmp 50), type := _, pos := _, after := _, guard := _ } :: _) _ _; refine ob_store (b := w.heap.size) (cs := zOb) (cs' := #[.string nm, .int .i64 (sz : Int), .slice none 0 0]) rfl (.tmp 4) (.tmp 50) rfl (by rfl) (by rfl) (by exact HQ.out.1) rfl rfl (by simp [Value.oneCell']) ?_)
 have qd : (w1.setRow w.heap.size #[.string nm, .int .i64 (sz : Int), .slice none 0 0]).heap[w.heap.size]? = some (.cells #[.string nm, .int .i64 (sz : Int), .slice none 0 0] 114 (0, 0)) := setRow_heap _ _ _ _ _ _ HQ.out.1
 have qe : Below w.heap.size w (w1.setRow w.heap.size #[.string nm, .int .i64 (sz : Int), .slice none 0 0]) := H.out.2.2.2.2.2.1.grown (grown_setRow' _ _ _) H.out.2.2.2.2.2.1.size (fun k e => by have := Option.some.inj e; omega)
 have H8 := hide2 qd qe
 have qz := hide ky
 clear qd qe qb ky
 go_loopw [52] (fun i wr => UoR w nm sz o.stripes i wr) (fun i _ => m - (intOf i).toNat)
 case atStart => exact ⟨0, _, Nat.zero_le _, rfl, H8.out.1, World.ownsRow_nil _ _ _ _, H8.out.2⟩
 case round =>
  clear H8
  obtain ⟨j, sv, hj, rfl, hi, hf, hb⟩ := hrel
  obtain ⟨_, _, _, _, _, _, _, hm, hy, hz, hB, hc, k0⟩ := H.out
  obtain ⟨h7, kh, kd, kj, ke⟩ := HL.out
  have kz := hB.mono (w' := wr) hb
  have q0 := hb.size
  have k9 : w.heap.size < wr.heap.size := (Array.getElem?_eq_some_iff.1 hi).1
  by_cases xf : j < m
  · have q1 : j < o.stripes.length := by omega
    obtain ⟨ii, x0, q2, q3, q4⟩ := info_parts Tryz.infoIntT
    have qf := ho.st _ (List.getElem_mem q1)
    have ka := kz.sub (19 + 4 * j) 4 (c - (19 + 4 * j)) (by rw [← hc]; omega) (by omega)
    rw [pack_stripe ho rest j q1] at ka
    obtain ⟨s, hs⟩ : ∃ s, o.stripes[j] = s := ⟨_, rfl⟩
    rw [hs] at qf ka
    have qg : ivs (o.stripes.take (j + 1)) = ivs (o.stripes.take j) ++ [.int .i64 (s : Int)] := by
     rw [List.take_add_one, List.getElem?_eq_getElem q1, hs]
     unfold ivs
     rw [List.map_append]
     rfl
    obtain ⟨v12, w12, hn, h5, kb, _, _⟩ := run_append_own_at (P := Tryz.prog) (wr.drew.alloc (.cells #[.int .i64 (s : Int)] 3)) w.heap.size 108 0 3 ii (.int .i64 0) 1 8 Tryz.underlying108 x0 q2 q3 q4 rfl (by decide) sv j (ivs (o.stripes.take j)) ((show wr.drew.ownsRow w.heap.size 3 1 sv j (ivs (o.stripes.take j)) from hf).alloc _) ⟨wr.heap.size, 0, none⟩ 1 1 [.int .i64 (s : Int)] rfl (one_made wr.drew _ _) (by intro u hu; simp at hu; subst hu; rfl) (by unfold maxLen; omega) (by omega) (by simp; omega)
    have q5 : (wr.drew.alloc (.cells #[.int .i64 (s : Int)] 3)).heap[w.heap.size]? = some (.cells #[.string nm, .int .i64 (sz : Int), sv] 114 (0, 0)) := (blk_alloc_lt _ _ _ k9).trans hi
    have hp : (wr.drew.alloc (.cells #[.int .i64 (s : Int)] 3)).ownsRow w.heap.size 3 1 sv j (ivs (o.stripes.take j)) := (show wr.drew.ownsRow w.heap.size 3 1 sv j (ivs (o.stripes.take j)) from hf).alloc _
    have ha := (kb.block w.heap.size (by simp; omega) (fun e => own_apart hp q5 (by decide) e.symm)).trans q5
    have hq := own_slice h5
    have q6 : Below w.heap.size w (wr.drew.alloc (.cells #[.int .i64 (s : Int)] 3)) := hb.drew.alloc q0 _
    have h6 : Below w.heap.size w w12 := q6.grown kb q6.size (fun k e => own_ge hp e)
    rw [← qg] at h5
    have qh := hide7 hi ka hn h5 ha hq h6
    have q7 : j ≤ 100000 := by omega
    have x1 : 19 + 4 * j + 4 ≤ bl := by omega
    clear hi hf hb hm hy hz hB hc k0 h7 kh kd kj kz ka hn h5 kb q5 hp ha hq q6 h6 qg hs q0 k9
    go_wp2_with fail
    obtain ⟨hi, ka, hn, h5, ha, ⟨va, vc, hq⟩, h6⟩ := qh.out
    refine unpack_region12 hi rfl x1 ke q7 qf ka (fun _ => hn) ⟨va, j + 1, vc, hq⟩ ha (by kernel_rfl) rfl rfl rfl rfl ?_
    intro w3 ki
    have kr : w3.heap[w.heap.size]? = some (.cells #[.string nm, .int .i64 (sz : Int), v12] 114 (0, 0)) := by rw [ki]; exact heap_setCell_same w12 w.heap.size 2 _ _ v12 ha
    have kc : Outside (fun k => k = w.heap.size) w12 w3 := by rw [ki]; exact Outside.setCell _ _ _ rfl
    have k6 : w3.ownsRow w.heap.size 3 1 v12 (j + 1) (ivs (o.stripes.take (j + 1))) := own_keepO h5 kc (fun k hk e => own_apart h5 ha (by decide) (by rw [hk, e]))
    have km : Below w.heap.size w w3 := ⟨kc.os.trans h6.os, kc.tape.trans h6.tape, kc.output.trans h6.output, Nat.le_trans h6.size kc.size, fun k hk => (kc.block k (by have := h6.size; omega) (by omega)).trans (h6.block k hk)⟩
    have H3 := hide3 kr k6 km
    clear hi ka hn h5 ha hq h6 kr kc k6 km ki qh
    rename_i kn
    refine kn _ _ ?_
    clear kn
    simp only [Act.putFrom, Act.put, List.setIfInBounds_toArray, List.set_cons_succ, List.set_cons_zero]
    go_wp2
    go_roundw
    case rel => exact ⟨j + 1, v12, by have := H.out.2.2.2.2.2.2.2.1; omega, by go_num, H3.out.1, H3.out.2.1, H3.out.2.2⟩
    case measure => simp [intOf]; omega
  · have q8 : j = m := by omega
    subst q8
    obtain ⟨sa, sc, x2⟩ := own_slice hf
    subst x2
    have kp : o.stripes ≠ [] := fun e => by
     have h1 := congrArg List.length e
     have h2 : 1 ≤ o.stripes.length := by rw [k0]; exact Nat.le_max_left _ _
     rw [h1] at h2
     simp at h2
    have hg := own_ints (K := fun k => w.heap.size ≤ k) (show wr.ownsRow w.heap.size 3 1 (.slice sa j sc) j (ivs o.stripes) by have h1 := hf; rw [List.take_of_length_le (by omega)] at h1; exact h1) kp (by omega) (fun k hk => hk)
    have hg := hg.choose_spec.choose_spec.2
    obtain ⟨ra, qi⟩ : ∃ ra : Option Addr, (c = lo ∧ ra = some ⟨b, off, none⟩) ∨ (c ≠ lo ∧ ra = some ⟨b, off + lo, none⟩) := by
     by_cases h9 : c = lo
     · exact ⟨_, .inl ⟨h9, rfl⟩⟩
     · exact ⟨_, .inr ⟨h9, rfl⟩⟩
    have he : ∀ w0, Bs w0 (.slice (some ⟨b, off, none⟩) bl c) (packOb o ++ rest) → Bs w0 (.slice ra (bl - lo) (c - lo)) rest := by
     intro w0 x3
     have h1 := x3.sub lo (bl - lo) (c - lo) (by rw [← hc]; omega) (by omega)
     have h2 : ((packOb o ++ rest).drop lo).take (bl - lo) = rest := by
      rw [show lo = 19 + 4 * o.stripes.length by omega, pack_rest ho, List.take_of_length_le (by omega)]
     rw [h2] at h1
     rcases qi with ⟨h3, rfl⟩ | ⟨h3, rfl⟩
     · have x4 : rest = [] := List.length_eq_zero_iff.1 (by omega)
       subst x4
       refine ⟨some ⟨b, off, none⟩, c - lo, ?_, by simp, by decide, fun _ h => (by cases h), fun h => absurd rfl h⟩
       simp only [List.length_nil]
       congr 1
       omega
     · exact h1
    have Hr := hide4 hi hg he hb
    have q7 : j ≤ 100000 := by omega
    have x5 : lo ≤ bl := by omega
    clear hi hf hb hm hy hz hB hc k0 h7 kd kj kz hg he q0 k9 kp
    go_wp2_with fail
    refine unpack_region14 Hr.out.1 kh x5 ke q7 qi (by kernel_rfl) rfl rfl rfl rfl ?_
    intro w3 ki
    rename_i kn
    refine kn _ _ ?_
    clear kn
    simp only [Act.putFrom, Act.put, List.setIfInBounds_toArray, List.set_cons_succ, List.set_cons_zero]
    go_wp2
    obtain ⟨hi, hg, he, hb⟩ := Hr.out
    have kr : w3.heap[w.heap.size]? = some (.cells #[.string nm, .int .i64 (sz : Int), .slice sa j sc] 114 (0, 0)) := by rw [ki]; exact hi
    refine bodyPost_ret (v := .tuple #[.agg #[.string nm, .int .i64 (sz : Int), .slice sa j sc], .slice ra (bl - lo) (c - lo), .bool true]) (results_mix Tryz.results168 _ w3 w.heap.size 114 _ (0, 0) _ _ _ rfl rfl rfl kr Tryz.underlying114 rfl (by kernel_rfl)) rfl ?_
    have qj := H.out.2.2.2.2.2.2.2.1
    have q9 := H.out.2.2.2.2.2.2.2.2.1
    have km : Below wr.heap.size wr w3 := by rw [ki]; exact (Below.refl _ wr).drew
    refine ⟨⟨sa, sc, _, by rw [qz.out, q9, qj], ?_, he⟩, hb.trans (km.mono hb.size)⟩
    rw [qj]
    exact hg.keep (KpS.of_below km)
def strB (l : List Nat) : ByteArray := ⟨(l.map UInt8.ofNat).toArray⟩
theorem convert_bs (h : Bs w v l) : (convert 31 9 v).run Tryz.prog w = .ok (.string (strB l)) w := by
 obtain ⟨ao, c, rfl, _, _, hx, h4⟩ := h
 by_cases hl : l = []
 · subst hl
   exact convert_none ao c w
 · obtain ⟨b, off, rfl, hc⟩ := h4 hl
   have := run_convert_bytes_back (P := Tryz.prog) w 31 9 5 ⟨b, off, none⟩ c (l.map UInt8.ofNat) Tryz.underlying31 Tryz.underlying5 Tryz.underlying9 (fun j hj => by
    rw [List.length_map] at hj
    have h9 := hc j hj
    have h8 : ((l.map UInt8.ofNat)[j]'(by rw [List.length_map]; exact hj)).toNat = l.getD j 0 := by
     rw [List.getElem_map, List.getD_eq_getElem?_getD, List.getElem?_eq_getElem hj]
     have := hx _ (List.getElem_mem hj)
     simp
     omega
    rw [h8]
    unfold Addr.add
    split
    · rename_i h0; subst h0; exact h9
    · exact h9)
   rw [List.length_map] at this
   exact this
theorem equal_same {v' : Value} (h : Bs w v l) (h' : Bs w v' l) : Calls Tryz.prog 169 #[v, v'] w fun e w' => e = .returned (.bool true) ∧ w' = w := by
 have h1 := convert_bs h
 have h2 := convert_bs h'
 obtain ⟨ao, c, rfl, _⟩ := h
 obtain ⟨bo, d, rfl, _⟩ := h'
 obtain ⟨S, hS⟩ : ∃ S, strB l = S := ⟨_, rfl⟩
 obtain ⟨N, hN⟩ : ∃ N, l.length = N := ⟨_, rfl⟩
 rw [hS, hN] at h1 h2
 rw [hN]
 clear hS hN
 go_enter Tryz.func169, Tryz.ntmps169
 go_wp2
 go_ret
 exact ⟨rfl, rfl⟩
def ob0 : Ob := ⟨ByteArray.empty, 0, []⟩
theorem Bs.of_owns5 {n : Nat} (h : w.ownsRow base 5 1 v n (bts l)) (hx : ∀ x ∈ l, x < 256) (hl : l.length ≤ 1000000000) : Bs w v l := by
 have hn : l.length = n := by have := h.1; rw [bts_len] at this; omega
 rcases h.2 with ⟨rfl, h0⟩ | ⟨g, cap, cur, rfl, e2, e3, e4, e5, e6, e7⟩
 · have : l = [] := List.length_eq_zero_iff.1 (by omega)
   subst this
   exact ⟨none, 0, rfl, Nat.le_refl _, by decide, hx, fun h => absurd rfl h⟩
 · refine ⟨some ⟨g, 0, none⟩, cap, by rw [hn], by omega, by omega, hx, fun _ => ⟨g, 0, rfl, fun k hk => ?_⟩⟩
   have h7 := congrArg (fun l => l[k]?) e7
   simp only [Nat.mul_one, bts] at h7
   rw [List.getElem?_take_of_lt (by omega), Array.getElem?_toList, List.getElem?_map, List.getElem?_eq_getElem hk] at h7
   have e9 : l.getD k 0 = l[k] := by simp [List.getD_eq_getElem?_getD, hk]
   rw [e9]
   simp only [Nat.zero_add, World.cell?, e3]
   exact h7
def obx (os : List Ob) (sv : Nat → Value) (k : Nat) : List Value := (List.range k).flatMap fun i => [.string (os.getD i ob0).name, .int .i64 ((os.getD i ob0).size : Nat), sv i]
theorem obx_len (os : List Ob) (sv : Nat → Value) : ∀ k, (obx os sv k).length = k * 3
 | 0 => rfl
 | k + 1 => by
  unfold obx
  rw [List.range_succ, List.flatMap_append, List.length_append]
  have := obx_len os sv k
  unfold obx at this
  rw [this]
  simp
  omega
theorem obx_succ (os : List Ob) (sv : Nat → Value) (k : Nat) : obx os sv (k + 1) = obx os sv k ++ [.string (os.getD k ob0).name, .int .i64 ((os.getD k ob0).size : Nat), sv k] := by
 unfold obx
 rw [List.range_succ, List.flatMap_append]
 simp
theorem obx_congr {sv' : Nat → Value} (h : ∀ i, i < k → sv i = sv' i) : obx os sv k = obx os sv' k := by
 induction k with
 | zero => rfl
 | succ k ih => rw [obx_succ, obx_succ, ih (fun i hi => h i (by omega)), h k (by omega)]
theorem obx_at (os : List Ob) (sv : Nat → Value) : ∀ (k i : Nat), i < k → (obx os sv k)[i * 3]? = some (.string (os.getD i ob0).name) ∧ (obx os sv k)[i * 3 + 1]? = some (.int .i64 ((os.getD i ob0).size : Nat)) ∧ (obx os sv k)[i * 3 + 2]? = some (sv i)
 | k + 1, i, hi => by
  have hl := obx_len os sv k
  rw [obx_succ]
  by_cases h : i < k
  · obtain ⟨h1, h2, h3⟩ := obx_at os sv k i h
    rw [List.getElem?_append_left (by omega), List.getElem?_append_left (by omega), List.getElem?_append_left (by omega)]
    exact ⟨h1, h2, h3⟩
  · have e : i = k := by omega
    subst e
    rw [List.getElem?_append_right (by omega), List.getElem?_append_right (by omega), List.getElem?_append_right (by omega), hl, show i * 3 - i * 3 = 0 by omega, show i * 3 + 1 - i * 3 = 1 by omega, show i * 3 + 2 - i * 3 = 2 by omega]
    exact ⟨rfl, rfl, rfl⟩
theorem cat_of_own {K : Nat → Prop} (h : w.ownsRow base 114 3 v os.length (obx os sv os.length)) (hl : os.length ≤ 1000000) (hK : ∀ k, base ≤ k → K k) (hI : ∀ i (hi : i < os.length), Ints K w (sv i) os[i].stripes) : Cat K w v os := by
 rcases h.2 with ⟨h0, h1⟩ | ⟨g, cap, cur, e1, e2, e3, _⟩
 · have : os = [] := List.length_eq_zero_iff.1 h1
   subst this
   rw [h0]
   exact Cat.nil _ _
 · refine ⟨some ⟨g, 0, none⟩, cap, e1, hl, fun _ => ⟨g, 0, rfl, hK g e2, (Array.getElem?_eq_some_iff.1 e3).1, fun i hi => ?_⟩⟩
   obtain ⟨a1, a2, a3⟩ := obx_at os sv os.length i hi
   have e : os.getD i ob0 = os[i] := by simp [List.getD_eq_getElem?_getD, hi]
   rw [e] at a1 a2
   have hc : ∀ j u, (obx os sv os.length)[j]? = some u → w.cell? ⟨g, j, none⟩ = some u := fun j u hj => by
    have := h.cells (g := g) (by rw [e1]; rfl) j u hj
    rwa [add0] at this
   refine ⟨sv i, ?_, ?_, ?_, hI i hi⟩
   · rw [Nat.zero_add]; exact hc _ _ a1
   · rw [Nat.zero_add]; exact hc _ _ a2
   · rw [Nat.zero_add]; exact hc _ _ a3
theorem packL_le : ∀ {l : List Ob}, (∀ o ∈ l, o.fit) → (packL l).length ≤ l.length * 5000
 | [], _ => by simp [packL]
 | o :: l, h => by
  have h1 := packL_le (l := l) (fun x hx => h x (List.mem_cons_of_mem _ hx))
  have h2 := h o (List.mem_cons_self ..)
  have h3 := h2.len
  have e : packL (o :: l) = packOb o ++ packL l := rfl
  rw [e, List.length_append, packOb_len h2, List.length_cons]
  omega
structure UpI (w : World) (os : List Ob) (k : Nat) (cv rv : Value) (sv : Nat → Value) (wr : World) : Prop where
 rest : Bs w rv (packL (os.drop k))
 own : wr.ownsRow w.heap.size 114 3 cv k (obx os sv k)
 ints : ∀ i (hi : i < os.length), i < k → Ints (fun b => w.heap.size ≤ b ∧ cv.ownBlock ≠ some b) wr (sv i) os[i].stripes
 below : Below w.heap.size w wr
theorem up_step {wr w2 w4 w5 : World} {m sz sc : Nat} {cv v5 bv : Value} {rv : Value} {nm : ByteArray} {sa : Option Addr} (ha : k < os.length) (hI : UpI w os k cv rv sv wr) (h6 : Below wr.heap.size wr w2) (he : Ints (fun b => wr.heap.size ≤ b) w2 (.slice sa m sc) os[k].stripes) (hf : Bs w bv (packL (os.drop (k + 1))))
 (h7 : Below w2.heap.size w2 w4) (hg : os[k].name = nm) (hh : os[k].size = sz) (hj : w5.ownsRow w.heap.size 114 3 v5 (k + 1) (obx os sv k ++ [.string nm, .int .i64 (sz : Int), .slice sa m sc])) (h0 : (w4.alloc (.cells #[.string nm, .int .i64 (sz : Int), .slice sa m sc] 114)).grownBy w5 cv.ownBlock)
 (h3 : v5.ownBlock = cv.ownBlock ∨ v5.ownBlock = some (w4.alloc (.cells #[.string nm, .int .i64 (sz : Int), .slice sa m sc] 114)).heap.size) : UpI w os (k + 1) v5 bv (fun i => if i = k then .slice sa m sc else sv i) w5 := by
 have hm : Below w4.heap.size w4 (w4.alloc (.cells #[.string nm, .int .i64 (sz : Int), .slice sa m sc] 114)) := (Below.refl _ w4).alloc (Nat.le_refl _) _
 have hr : (w4.alloc (.cells #[.string nm, .int .i64 (sz : Int), .slice sa m sc] 114)).heap.size = w4.heap.size + 1 := by simp
 have hn := h6.size
 have hp := h7.size
 have hq := hI.below.size
 have h4 : Below w2.heap.size w2 (w4.alloc (.cells #[.string nm, .int .i64 (sz : Int), .slice sa m sc] 114)) := h7.trans (hm.mono hp)
 have h5 : Below wr.heap.size wr (w4.alloc (.cells #[.string nm, .int .i64 (sz : Int), .slice sa m sc] 114)) := h6.trans (h4.mono hn)
 have h8 : ∀ b, cv.ownBlock = some b → b < wr.heap.size := fun b hb => by
  obtain ⟨cur, hc⟩ := own_type hI.own hb
  exact (Array.getElem?_eq_some_iff.1 hc).1
 have e : os.getD k ob0 = os[k] := by simp [List.getD_eq_getElem?_getD, ha]
 refine ⟨hf, ?_, fun i hi hs => ?_, ?_⟩
 · rw [obx_succ, e, hg, hh, if_pos rfl]
   rw [obx_congr (sv' := sv) (fun i hi => if_neg (by omega))]
   exact hj
 · by_cases h9 : i = k
   · subst h9
     rw [if_pos rfl]
     have h1 : Ints (fun b => wr.heap.size ≤ b ∧ b < w2.heap.size) w2 (.slice sa m sc) os[i].stripes := by
      obtain ⟨ao, c, q1, q2, q3⟩ := he
      refine ⟨ao, c, q1, q2, fun hl => ?_⟩
      obtain ⟨b, off, r1, r2, r3, r4⟩ := q3 hl
      exact ⟨b, off, r1, ⟨r2, r3⟩, r3, r4⟩
     refine (h1.keep (w' := w5) ⟨by have := h0.size; omega, fun b hb hk => ?_⟩).weaken fun b hk => ⟨by omega, fun q => ?_⟩
     · exact (h0.block b (by omega) (fun q => by have := h8 b q.symm; omega)).trans (h4.block b hb)
     · rcases h3 with h | h
       · rw [h] at q; have := h8 b q; omega
       · rw [h] at q; have := Option.some.inj q; omega
   · rw [if_neg h9]
     have h1 := hI.ints i hi (by omega)
     have h2 : Ints (fun b => (w.heap.size ≤ b ∧ cv.ownBlock ≠ some b) ∧ b < wr.heap.size) wr (sv i) os[i].stripes := by
      obtain ⟨ao, c, q1, q2, q3⟩ := h1
      refine ⟨ao, c, q1, q2, fun hl => ?_⟩
      obtain ⟨b, off, r1, r2, r3, r4⟩ := q3 hl
      exact ⟨b, off, r1, ⟨r2, r3⟩, r3, r4⟩
     refine (h2.keep (w' := w5) ⟨by have := h0.size; omega, fun b hb hk => ?_⟩).weaken fun b hk => ⟨hk.1.1, fun q => ?_⟩
     · exact (h0.block b (by omega) (fun q => hk.1.2 q.symm)).trans (h5.block b hb)
     · rcases h3 with h | h
       · rw [h] at q; exact hk.1.2 q
       · rw [h] at q; have := Option.some.inj q; omega
 · exact (hI.below.trans (h5.mono hq)).grown h0 (by omega) (fun b hb => own_ge hI.own hb)
def UpR (w : World) (os : List Ob) (cv rv : Value) (wr : World) : Prop := ∃ (k : Nat) (sv : Nat → Value), k ≤ os.length ∧ UpI w os k cv rv sv wr
def leS (a b : ByteArray) : Bool := Op.bytesLess a.toList b.toList || a.toList == b.toList
def Rising (os : List Ob) : Prop := ∀ i (_ : i + 1 < os.length), leS (os.getD (i + 1) ob0).name (os.getD i ob0).name = false
theorem Tryz.infoObj48 : (Tryz.prog.info? 114).map (fun i => (i.zero, i.size, i.bytes)) = some (some (.agg #[.string ByteArray.empty, .int .i64 0, .slice none 0 0]), 3, 48) := by kernel_rfl
theorem three_made (w : World) (x y z : Value) (t : TypeId) : ∀ j u, [x, y, z][j]? = some u → (w.alloc (.cells #[x, y, z] t)).cell? ((⟨w.heap.size, 0, none⟩ : Addr).add j) = some u := by
 intro j u h
 rw [add0]
 match j, h with
 | 0, h => simp at h; subst h; simp only [World.cell?, blk_alloc_new w (.cells #[x, y, z] t)]; rfl
 | 1, h => simp at h; subst h; simp only [World.cell?, blk_alloc_new w (.cells #[x, y, z] t)]; rfl
 | 2, h => simp at h; subst h; simp only [World.cell?, blk_alloc_new w (.cells #[x, y, z] t)]; rfl
 | j + 3, h => simp at h
def UpPost (w : World) (os : List Ob) (e : Ending) (w' : World) : Prop := ∃ o, e = .returned (.tuple #[o, .bool true]) ∧ Cat (fun k => w.heap.size ≤ k) w' o os ∧ Below w.heap.size w w'
def lenOfV : Value → Nat
 | .slice _ n _ => n
 | _ => 0
theorem unpack_any (ss : Nat) (qc : 1 ≤ ss ∧ ss ≤ 1000000) (hB : Bs w v (packL os)) (hf : ∀ o ∈ os, o.fit) (ha : ∀ o ∈ os, o.stripes.length = max 1 ((o.size + ss - 1) / ss)) (hr : Rising os) (qd : os.length ≤ 10000) :
 Calls Tryz.prog 145 #[v, .int .i64 ss] w fun e w' => UpPost w os e w' := by
 obtain ⟨ao, c, hv, _⟩ := id hB
 obtain ⟨M, hM⟩ : ∃ M, (packL os).length = M := ⟨_, rfl⟩
 rw [hM] at hv
 subst hv
 have HB := hide5 hB hf ha hr hM
 clear hB hf ha hr hM
 go_enter Tryz.func145, Tryz.ntmps145
 go_wp2_with fail
 go_loopw [6, 7] (fun cv rv wr => UpR w os cv rv wr) (fun _ rv _ => lenOfV rv)
 case atStart => exact ⟨0, fun _ => .slice none 0 0, Nat.zero_le _, by rw [List.drop_zero]; exact HB.out.1, World.ownsRow_nil _ _ _ _, fun i _ h => absurd h (Nat.not_lt_zero _), Below.refl _ _⟩
 case round =>
  obtain ⟨k, sv, hk, hI⟩ := hrel
  by_cases he : k < os.length
  · obtain ⟨hB, hf, ha, hr, hM⟩ := HB.out
    have hg : os.drop k = os[k] :: os.drop (k + 1) := List.drop_eq_getElem_cons he
    have kb : packL (os.drop k) = packOb os[k] ++ packL (os.drop (k + 1)) := by rw [hg]; rfl
    have hp := hf _ (List.getElem_mem he)
    have h6 := hI.rest
    rw [kb] at h6
    have h3 : Bs wr _ (packL (os.drop k)) := hI.rest.mono hI.below
    rw [kb] at h3
    obtain ⟨rao, rc, hq, kf, kg, _, hy⟩ := id h3
    have q4 : packOb os[k] ++ packL (os.drop (k + 1)) ≠ [] := fun e => by
     have := congrArg List.length e
     rw [List.length_append, packOb_len hp] at this
     simp at this
    obtain ⟨rb, ro, rfl, _⟩ := hy q4
    have qe : (packL (os.drop (k + 1))).length ≤ 100000000 := by
     have h1 := packL_le (l := os.drop (k + 1)) (fun o ho => hf o (List.mem_of_mem_drop ho))
     rw [List.length_drop] at h1
     omega
    obtain ⟨bl, hs⟩ : ∃ bl, (packOb os[k] ++ packL (os.drop (k + 1))).length = bl := ⟨_, rfl⟩
    have qf : 0 < bl := by rw [← hs, List.length_append, packOb_len hp]; omega
    rw [hs] at hq
    rw [hq] at h3
    have q5 := unpackObject_ok ss h3 hs.symm hp qc (ha _ (List.getElem_mem he)) qe
    obtain ⟨cao, cc, kc⟩ := own_slice hI.own
    have HR := hide hr
    have kh : (packL (os.drop (k + 1))).length < bl := by rw [← hs, List.length_append, packOb_len hp]; omega
    clear hr
    have HI := hide6 hI q5 hp hs kb h6
    clear hI hB hf ha hM hg kb hp h3 h6 kf kg hy q4 q5 hs
    subst hq kc
    go_wp2_with fail
    refine HI.out.2.1.mono ?_
    rintro e w2 ⟨⟨sa, sc, bv, rfl, ki, hz⟩, k0⟩
    have kj := hz w HI.out.2.2.2.2.2
    clear hz
    obtain ⟨o, ho⟩ : ∃ o, os[k] = o := ⟨_, rfl⟩
    rw [ho] at ki ⊢
    have H2 := hide4 ki kj k0 ho
    obtain ⟨bao, bc, q6, _⟩ := id kj
    obtain ⟨bn, q7⟩ : ∃ bn, (packL (os.drop (k + 1))).length = bn := ⟨_, rfl⟩
    rw [q7] at q6 kh
    subst q6
    clear ki kj k0 ho q7
    have kk : Below w2.heap.size w2 (w2.alloc (.cells #[.string o.name, .int .i64 (o.size : Nat), .slice sa o.stripes.length sc] 114)) := (Below.refl _ w2).alloc (Nat.le_refl _) _
    have kd : (w2.alloc (.cells #[.string o.name, .int .i64 (o.size : Nat), .slice sa o.stripes.length sc] 114)).heap[w2.heap.size]? = some (.cells #[.string o.name, .int .i64 (o.size : Nat), .slice sa o.stripes.length sc] 114 (0, 0)) := blk_alloc_new _ _
    obtain ⟨w3, ke⟩ : ∃ w3, w2.alloc (.cells #[.string o.name, .int .i64 (o.size : Nat), .slice sa o.stripes.length sc] 114) = w3 := ⟨_, rfl⟩
    rw [ke] at kk kd
    have q0 : w3.cell? ⟨w2.heap.size, 0, none⟩ = some (.string o.name) := by simp [World.cell?, kd]
    have H3 := hide2 kk kd
    clear kk kd
    obtain ⟨nm, km⟩ : ∃ nm, o.name = nm := ⟨_, rfl⟩
    obtain ⟨sz, kn⟩ : ∃ sz, o.size = sz := ⟨_, rfl⟩
    obtain ⟨m, hm⟩ : ∃ m, o.stripes.length = m := ⟨_, rfl⟩
    rw [km] at q0 ke ⊢
    rw [kn] at ke ⊢
    rw [hm] at ke ⊢
    have HO := hide3 km kn hm
    clear km kn hm
    go_wp2_with fail
    obtain ⟨io, q8, k5, k6, k7⟩ := info_parts Tryz.infoObj48
    by_cases qg : k = 0
    · subst qg
      go_quiet (fail)
      have hc : Below w3.heap.size w3 (w3.drewN nq) := ⟨rfl, rfl, rfl, Nat.le_refl _, fun _ _ => rfl⟩
      obtain ⟨w4, k8⟩ : ∃ w4, w3.drewN nq = w4 := ⟨_, rfl⟩
      rw [k8] at hc ⊢
      have h8 := (hc.block _ (Array.getElem?_eq_some_iff.1 H3.out.2).1).trans H3.out.2
      rw [HO.out.1, HO.out.2.1, HO.out.2.2] at h8
      have r0 : w4.cell? ⟨w2.heap.size, 0, none⟩ = some (.string nm) := by simp [World.cell?, h8]
      have r1 : w4.cell? ⟨w2.heap.size, 1, none⟩ = some (.int .i64 (sz : Int)) := by simp [World.cell?, h8]
      have r2 : w4.cell? ⟨w2.heap.size, 2, none⟩ = some (.slice sa m sc) := by simp [World.cell?, h8]
      have h4 : Below w2.heap.size w2 w4 := H3.out.1.trans (hc.mono H3.out.1.size)
      have h7 : Below wr.heap.size wr (w4.alloc (.cells #[.string nm, .int .i64 (sz : Int), .slice sa m sc] 114)) := (H2.out.2.2.1.trans (h4.mono H2.out.2.2.1.size)).alloc (Nat.le_trans H2.out.2.2.1.size h4.size) _
      have h5 := own_keepO HI.out.1.own (Outside.of_all h7 (fun _ => False)) (fun _ _ h => h)
      have ko : w.heap.size ≤ (w4.alloc (.cells #[.string nm, .int .i64 (sz : Int), .slice sa m sc] 114)).heap.size := Nat.le_trans HI.out.1.below.size h7.size
      have HA := hide2 h5 h4
      clear h5 hc k8 h8 q0 h4 h7
      go_wp2_with (show wpList _ _ _ ({ dst := some 44, op := _, type := _, pos := _, after := _, guard := _ } :: _) _ _; refine wpList_append_own_at _ rfl (.tmp 41) (.tmp 43) 110 rfl w.heap.size 114 io (.agg #[.string ByteArray.empty, .int .i64 0, .slice none 0 0]) 3 48 Tryz.underlying110 q8 k5 k6 k7 rfl (by decide) (.slice cao 0 cc) 0 (obx os sv 0) rfl (by exact HA.out.1) ⟨w4.heap.size, 0, none⟩ 1 1 _ rfl rfl (three_made w4 _ _ _ _) (by intro u hu; simp at hu; rcases hu with rfl | rfl | rfl <;> rfl) (by unfold maxLen; omega) (by omega) (by exact ko) ?_; intro v5 w5 kp kr qh hj)
      refine ⟨⟨0 + 1, _, he, up_step he HI.out.1 H2.out.2.2.1 (by have h9 := H2.out.1; rw [HO.out.2.2, ← H2.out.2.2.2] at h9; exact h9) H2.out.2.1 HA.out.2 (by rw [H2.out.2.2.2]; exact HO.out.1) (by rw [H2.out.2.2.2]; exact HO.out.2.1) kp kr hj⟩, ?_⟩
      show bn < bl
      omega
    · have qo : 0 < k := by omega
      have qp : ((k : Nat) : Int) > 0 := by omega
      obtain ⟨pv, ks⟩ : ∃ pv, (os.getD (k - 1) ob0).name = pv := ⟨_, rfl⟩
      obtain ⟨cg, qi, kv⟩ : ∃ cg, cao = some ⟨cg, 0, none⟩ ∧ wr.cell? ⟨cg, (k - 1) * 3, none⟩ = some (.string pv) := by
       rcases HI.out.1.own.2 with ⟨_, h0⟩ | ⟨g, cap, cur, e1, _⟩
       · omega
       · injection e1 with e1 _ _
         refine ⟨g, e1, ?_⟩
         have h1 := (obx_at os sv k (k - 1) (by omega)).1
         have h2 := HI.out.1.own.cells (g := g) (by rw [e1]; rfl) _ _ h1
         rw [add0, ks] at h2
         exact h2
      subst qi
      have k9 : w3.cell? ⟨cg, (k - 1) * 3, none⟩ = some (.string pv) := ((H2.out.2.2.1.trans (H3.out.1.mono H2.out.2.2.1.size)).cell (p := ⟨cg, (k - 1) * 3, none⟩) (block_lt_of_cell kv)).trans kv
      have kx : leS nm pv = false := by
       have h1 := HR.out (k - 1) (by omega)
       rw [show k - 1 + 1 = k by omega, ks] at h1
       have e : os.getD k ob0 = os[k] := by simp [List.getD_eq_getElem?_getD, he]
       rw [e, H2.out.2.2.2, HO.out.1] at h1
       exact h1
      have ky : ∀ w' : World, (binOp .leq 9 (.string nm) (.string pv)).run Tryz.prog w' = .ok (.bool false) w' := fun w' => by
       unfold leS at kx
       simp [binOp, Op.stringOp, kx]
      have qj : ((k : Nat) : Int) - 1 = ((k - 1 : Nat) : Int) := by omega
      have qk : (((k - 1 : Nat)) : Int).toNat = k - 1 := by omega
      obtain ⟨k1, ka⟩ : ∃ k1, k - 1 = k1 := ⟨_, rfl⟩
      rw [ka] at k9 qj qk
      have qm : k1 < k := by omega
      clear kv kx ks ka
      go_quiet (fail)
      clear k9 ky
      have hc : Below w3.heap.size w3 (w3.drewN nq) := ⟨rfl, rfl, rfl, Nat.le_refl _, fun _ _ => rfl⟩
      obtain ⟨w4, k8⟩ : ∃ w4, w3.drewN nq = w4 := ⟨_, rfl⟩
      rw [k8] at hc ⊢
      have h8 := (hc.block _ (Array.getElem?_eq_some_iff.1 H3.out.2).1).trans H3.out.2
      rw [HO.out.1, HO.out.2.1, HO.out.2.2] at h8
      have r0 : w4.cell? ⟨w2.heap.size, 0, none⟩ = some (.string nm) := by simp [World.cell?, h8]
      have r1 : w4.cell? ⟨w2.heap.size, 1, none⟩ = some (.int .i64 (sz : Int)) := by simp [World.cell?, h8]
      have r2 : w4.cell? ⟨w2.heap.size, 2, none⟩ = some (.slice sa m sc) := by simp [World.cell?, h8]
      have h4 : Below w2.heap.size w2 w4 := H3.out.1.trans (hc.mono H3.out.1.size)
      have h7 : Below wr.heap.size wr (w4.alloc (.cells #[.string nm, .int .i64 (sz : Int), .slice sa m sc] 114)) := (H2.out.2.2.1.trans (h4.mono H2.out.2.2.1.size)).alloc (Nat.le_trans H2.out.2.2.1.size h4.size) _
      have h5 := own_keepO HI.out.1.own (Outside.of_all h7 (fun _ => False)) (fun _ _ h => h)
      have ko : w.heap.size ≤ (w4.alloc (.cells #[.string nm, .int .i64 (sz : Int), .slice sa m sc] 114)).heap.size := Nat.le_trans HI.out.1.below.size h7.size
      have HA := hide2 h5 h4
      clear h5 hc k8 h8 q0 h4 h7
      go_wp2_with (show wpList _ _ _ ({ dst := some 44, op := _, type := _, pos := _, after := _, guard := _ } :: _) _ _; refine wpList_append_own_at _ rfl (.tmp 41) (.tmp 43) 110 rfl w.heap.size 114 io (.agg #[.string ByteArray.empty, .int .i64 0, .slice none 0 0]) 3 48 Tryz.underlying110 q8 k5 k6 k7 rfl (by decide) (.slice (some ⟨cg, 0, none⟩) k cc) k (obx os sv k) rfl (by exact HA.out.1) ⟨w4.heap.size, 0, none⟩ 1 1 _ rfl rfl (three_made w4 _ _ _ _) (by intro u hu; simp at hu; rcases hu with rfl | rfl | rfl <;> rfl) (by unfold maxLen; omega) (by omega) (by exact ko) ?_; intro v5 w5 kp kr qh hj)
      refine ⟨⟨k + 1, _, he, up_step he HI.out.1 H2.out.2.2.1 (by have h9 := H2.out.1; rw [HO.out.2.2, ← H2.out.2.2.2] at h9; exact h9) H2.out.2.1 HA.out.2 (by rw [H2.out.2.2.2]; exact HO.out.1) (by rw [H2.out.2.2.2]; exact HO.out.2.1) kp kr hj⟩, ?_⟩
      show bn < bl
      omega
  · have qn : k = os.length := by omega
    subst qn
    obtain ⟨hB, hf, ha, hr, hM⟩ := HB.out
    have h3 := hI.rest
    rw [List.drop_of_length_le (Nat.le_refl _)] at h3
    obtain ⟨rao, rc, hq, _⟩ := h3
    have kz : u7 = .slice rao 0 rc := hq
    have hn : Cat (fun k => w.heap.size ≤ k) wr u6 os := cat_of_own hI.own (by omega) (fun k hk => hk) (fun i hi => (hI.ints i hi hi).weaken fun b hb => hb.1)
    have q9 := pack_any hn hf qd
    obtain ⟨cao, cc, kc⟩ := own_slice hI.own
    obtain ⟨N, hN⟩ : ∃ N, os.length = N := ⟨_, rfl⟩
    rw [hN] at kc
    have H := hide4 hn hI.below q9 hN
    clear hn q9 hI hB hf ha hr hM hq hN
    subst kz kc
    go_wp2_with fail
    refine H.out.2.2.1.mono ?_
    rintro e w5 ⟨g, cap, rfl, hh, q1⟩
    obtain ⟨hB, hf, ha, hr, hM⟩ := HB.out
    have hx : ∀ x ∈ packL os, x < 256 := by obtain ⟨_, _, _, _, _, h, _⟩ := hB; exact h
    have hl : (packL os).length ≤ 1000000000 := by have := packL_le hf; omega
    have qa := Bs.of_owns5 hh hx hl
    have q2 : Below w.heap.size w w5 := H.out.2.1.trans (q1.mono H.out.2.1.size)
    have k0 := hB.mono q2
    have q3 := equal_same qa k0
    rw [hM] at q3
    have H5 := hide3 q3 q1 q2
    rw [hM]
    clear hB hf ha hr hM qa k0 q3 hh q1 q2 hx hl
    go_wp2_with fail
    refine H5.out.1.mono ?_
    rintro e w6 ⟨rfl, qb⟩
    obtain rfl : w5 = w6 := qb.symm
    clear qb
    go_wp2
    go_ret2
    exact ⟨_, rfl, H.out.1.keep (KpS.of_below H5.out.2.1), H5.out.2.2⟩
theorem unpackOk_any (D : Nat) (hD : 1 ≤ D ∧ D ≤ 1000) {os : List Ob} (hf : ∀ o ∈ os, o.fit) (h0 : ∀ o ∈ os, o.stripes.length = max 1 ((o.size + D * 44 - 1) / (D * 44))) (hr : Rising os) (h1 : os.length ≤ 10000) : UnpackOk D (packL os) os := fun w v hv => unpack_any (D * 44) ⟨by omega, by omega⟩ hv hf h0 hr h1
end Go.Proofs.YtpaemkanfnddoaaGreatDoor
