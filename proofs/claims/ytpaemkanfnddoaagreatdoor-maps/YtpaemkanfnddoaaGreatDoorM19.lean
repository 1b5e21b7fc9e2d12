import Derived.Test.YtpaemkanfnddoaaGreatDoorM18
import Derived.Deep.WholeRow
import Derived.Laws.Tables
set_option maxRecDepth 100000
set_option maxHeartbeats 8000000
namespace Go.Proofs.YtpaemkanfnddoaaGreatDoor
open Go.RowKit Go.Deep Gf
variable {a : Act} {cs : Array Value} {F : Foot} {x : Int} {n base r v b g N p D L G ps ho k q c : Nat} {R : Nat → List Nat} {f : Nat → Nat} {f0 : Nat → Value} {w : World}
section
open Go.Shelf
attribute [local go_sem] Oper.semAt_some
theorem ta_shard (v : Value) (w : World) : (Instr.typeAssert (.iface 200 v) 202 200 true).run Tryz.prog w = .ok (.tuple #[v, .bool true]) w := by
 simp [Instr.typeAssert, run_underlying Tryz.underlying200]
theorem infoShard : (Tryz.prog.info? 200).map (·.size) = some 44 := by kernel_rfl
theorem shard_store (w : World) (z : Array Value) (hz : z.size = 44) (l : List Nat) (hl : l.length = 44) : (Instr.storeAt 200 (.pointer (some ⟨w.heap.size, 0, none⟩)) (.agg (bts l).toArray)).run Tryz.prog (w.alloc (.cells z 200)) = .ok () (w.alloc (.cells (bts l).toArray 200)) := by
 have hs : (bts l).toArray.size = 44 := by rw [List.size_toArray, bts_len, hl]
 have := run_storeVar_new (P := Tryz.prog) w 200 z (bts l).toArray (by rw [hs]; exact infoShard) (by rw [hs, hz]) (by
  rw [List.all_toArray, List.all_eq_true]
  intro u hu
  obtain ⟨x, _, rfl⟩ := List.mem_map.1 hu
  rfl)
 simp only [Instr.storeAt, Instr.sureAddr, Sem.run_bind, Sem.run_pure, Result.andThen_ok, this]
theorem in_shard_new {F : Fence} {ops : Array Oper} {rest : List Oper} {o : Oper} {Q : Exit → Act → World → Prop} (hg : o.guard = none) (x y : Operand) (ho : o.op = .store 200 x y) {z : Array Value} {l : List Nat}
 (hx : a.eval x = .pointer (some ⟨w.heap.size, 0, none⟩)) (hy : a.eval y = .agg (bts l).toArray) (hz : z.size = 44) (hl : l.length = 44) (h : wpListIn F n Tryz.prog ops Q rest (a.put o.dst undef) (w.alloc (.cells (bts l).toArray 200))) : wpListIn F n Tryz.prog ops Q (o :: rest) a (w.alloc (.cells z 200)) := by
 refine wpListIn_plain hg fun K h0 => ?_
 unfold Oper.wpIn
 refine ⟨by simp [Oper.about, ho], ?_⟩
 rw [Oper.semAt_plain F _ _ (by rw [ho]; intro c h; cases h)]
 simp [execOp, ho, hx, hy, shard_store w z hz l hl, Result.andThen]
 exact h0 _ _ h
theorem end_none {fn : Func} {Z : World} {D' : Nat} {R : Ending → World → Prop} (hr : fn.results = #[]) (hd : a.defers = [{ target := .collected D', args := #[] }])
 (hK : Z.heap[D']? = some (.deferred (some []))) (hR : R (.returned (.tuple #[])) (Z.putObj D' (.deferred none))) : bodyPostM Fence.wide n Tryz.prog fn R .normal a Z := by
 obtain ⟨tm, df⟩ := a
 simp only at hd
 subst hd
 refine ⟨by simp, .inl ⟨_, _, rfl, run_takeDeferred hK, ?_⟩⟩
 refine ⟨.tuple #[], ?_, hR⟩
 simp [results, hr]
def Arr.readAt (A : Arr) (ds : List Nat) : Arr := { A with reads := fun i => if i ∈ ds then wrap64 (A.reads i + 1) else A.reads i }
theorem readAt_nil (A : Arr) : A.readAt [] = A := by simp [Arr.readAt]
theorem readAt_snoc (A : Arr) (ds : List Nat) (d : Nat) (hd : d ∉ ds) : (A.readAt ds).setReads d (wrap64 ((A.readAt ds).reads d + 1)) = A.readAt (ds ++ [d]) := by
 unfold Arr.readAt Arr.setReads
 congr 1
 funext i
 simp only [List.mem_append, List.mem_singleton]
 by_cases e : i = d
 · subst e
   rw [if_pos rfl, if_neg hd, if_pos (.inr rfl)]
 · rw [if_neg e]
   by_cases e2 : i ∈ ds
   · rw [if_pos e2, if_pos (.inl e2)]
   · rw [if_neg e2, if_neg (fun q => q.elim e2 e)]
theorem readAt_dup (A : Arr) (ds : List Nat) (d : Nat) (hd : d ∈ ds) : A.readAt (ds ++ [d]) = A.readAt ds := by
 unfold Arr.readAt
 congr 1
 funext i
 simp only [List.mem_append, List.mem_singleton]
 by_cases e2 : i ∈ ds
 · rw [if_pos e2, if_pos (.inl e2)]
 · rw [if_neg e2, if_neg (fun q => q.elim e2 (fun e => e2 (by rw [e]; exact hd)))]
theorem Arr.fit.readAt {A : Arr} (h : A.fit) (ds : List Nat) : (A.readAt ds).fit := ⟨h.n, h.nb, h.len, h.byt⟩
def Kn (w : World) (base : Nat) (f0 f : Nat → Value) (R : Nat → List Nat) (ds : List Nat) : Prop := (∀ i, i ∉ ds → f i = f0 i) ∧ ∀ i, i ∈ ds → ∃ bl, f i = .slice (some ⟨bl, 0, none⟩) 44 44 ∧ base ≤ bl ∧ bl < w.heap.size ∧ w.heap[bl]? = some (.cells (bts (R i)).toArray 200 (0, 0))
theorem Kn.keep {w' : World} {f : Nat → Value} {ds : List Nat} (h : Kn w base f0 f R ds) (hz : w.heap.size ≤ w'.heap.size) (hk : ∀ k o, base ≤ k → w.heap[k]? = some o → o.isCells = true → w'.heap[k]? = some o) : Kn w' base f0 f R ds := by
 refine ⟨h.1, fun i hi => ?_⟩
 obtain ⟨bl, q1, q2, q3, q4⟩ := h.2 i hi
 exact ⟨bl, q1, q2, Nat.lt_of_lt_of_le q3 hz, hk bl _ q2 q4 rfl⟩
theorem Kn.nil (w : World) (base : Nat) (f0 : Nat → Value) (R : Nat → List Nat) : Kn w base f0 f0 R [] := ⟨fun _ _ => rfl, fun _ h => by cases h⟩
structure FtI (w : World) (r v b g N p : Nat) (A : Arr) (F : Foot) (f0 : Nat → Value) (R : Nat → List Nat) (B S : Nat) (pre : List (Mb S)) (X : World) : Prop where
 b2 : Boxed X w.heap.size 128 (.pointer (some ⟨r, 0, none⟩))
 rd : RdAt X r v b g N 0 0
 row : ∃ f, X.rowIs g 31 N f ∧ Kn X w.heap.size f0 f R (preM pre)
 arr : ArrAt X p (A.readAt (preM pre)) F
 out : Outside (fun k => k = g ∨ F.has p A.n k) w X
 size : B ≤ X.heap.size
theorem FtI.own {A : Arr} {B S : Nat} (hB : w.heap.size + 1 ≤ B) (hg : g < w.heap.size) (hr : r < w.heap.size) (hF : ∀ k, F.has p A.n k → k < w.heap.size) : OwnFrom B (FtI w r v b g N p A F f0 R B S) := by
 rintro pre X Y row ⟨h0, h1, ⟨f, h2, ha⟩, h3, h4, h5⟩ h6 h7
 have hk : ∀ k, k < w.heap.size + 1 → Y.heap[k]? = X.heap[k]? := fun k hk => h6.block k (by omega) (fun e => by have := (h7 k e.symm).1; omega)
 refine ⟨(hk _ (by omega)).trans h0, h1.keep (hk _ (by omega)), ⟨f, h2.of_block (hk _ (by omega)), ha.keep h6.size fun k o _ ho hc => ?_⟩, h3.keep fun k he => hk k (by have := hF k he; omega), h4.later (T := fun k => w.heap.size ≤ k) ⟨h6.os, h6.tape, h6.output, h6.size, fun k hf hh => hk k (by omega)⟩ (fun k hf hh => by omega), Nat.le_trans h5 h6.size⟩
 refine (h6.block k (Array.getElem?_eq_some_iff.1 ho).1 (fun e => ?_)).trans ho
 obtain ⟨_, o', h8, h9⟩ := h7 k e.symm
 rw [ho] at h8
 cases h8
 rw [hc] at h9
 cases h9
theorem fetch_ok {A : Arr} (hV : Vol w v p D L G ps ho A F) (hF : Free F p A.n v) (hf : A.fit) (hr : RdAt w r v b g N 0 0) (hm : w.rowIs g 31 N f0) (S : Nat) (hS : S < 65536) (q8 : ∀ i, i ∈ mems S → i < N ∧ i < A.n) (hb : b < A.nb) (hw : A.wait ≠ 0)
 (hl : ∀ i, i ∈ mems S → A.lost i = false) (kg : ∀ i, i ∈ mems S → A.bad i b = false) (q9 : ∀ i, i ∈ mems S → f0 i = .slice none 0 0) (R : Nat → List Nat) (hR : ∀ i, i ∈ mems S → (Rec.shard (R i)).ok) (kh : ∀ i, i ∈ mems S → A.blk i b = (Rec.shard (R i)).blk) (ky : ¬ F.has p A.n g) (ki : ¬ F.has p A.n r) (kz : r ≠ g) (qa : v ≠ g) (qy : 3 ≤ g) :
 Calls Tryz.prog 110 #[.pointer (some ⟨r, 0, none⟩), .int .u64 S] w fun e w' => e = .returned (.tuple #[]) ∧ RdAt w' r v b g N 0 0 ∧ (∃ f, w'.rowIs g 31 N f ∧ Kn w' w.heap.size f0 f R (mems S)) ∧ ArrAt w' p (A.readAt (mems S)) F ∧ Outside (fun k => k = g ∨ F.has p A.n k) w w' := by
 obtain ⟨n, HN⟩ : ∃ n : Nat, Hid (9 ≤ n) := ⟨9, Nat.le_refl _⟩
 have hs : ∀ k, F.has p A.n k → k < w.heap.size := fun k hk => hV.arr.has_lt hk
 have qb := hm.lt
 have qc := hr.lt
 refine (callsIn_wide (n := n)).1 ?_
 refine callsIn_of_wp_marks Tryz.func110 rfl trivial ?_ rfl
 simp only [Tryz.ntmps110, List.size_toArray, List.length_cons, List.length_nil, Nat.reduceAdd, Nat.reduceSub, Array.replicate_succ, Array.replicate_zero, List.push_toArray, List.append_toArray, List.nil_append, List.cons_append]
 gi_wp2
 obtain ⟨w1, k0⟩ : ∃ w1, w.alloc (.cells #[.pointer (some ⟨r, 0, none⟩)] 128) = w1 := ⟨_, rfl⟩
 have h2 : Boxed w1 w.heap.size 128 (.pointer (some ⟨r, 0, none⟩)) := by rw [← k0]; exact Boxed.new w _ _
 have kj : w1.heap.size = w.heap.size + 1 := by rw [← k0]; simp
 have kb : Below w.heap.size w w1 := by rw [← k0]; exact (Below.refl _ w).alloc (Nat.le_refl _) _
 rw [k0]
 clear k0
 have q0 := hr.keep (kb.block _ hr.lt)
 refine fetch_region1 h2 q0 hS (by kernel_rfl) rfl rfl rfl ?_
 intro w6 kc
 have kk : w6.heap.size = w1.heap.size + 1 := by rw [kc]; simp
 have q1 : w6.cell? ⟨w1.heap.size, 0, none⟩ = some (.int .u64 (S : Int)) := by rw [kc]; exact (Boxed.new w1.drew 115 (.int .u64 (S : Int))).cell
 have hn : Below w1.heap.size w1 w6 := by rw [kc]; exact (Below.refl _ w1).drew.alloc (Nat.le_refl _) _
 have hy : Below w.heap.size w w6 := kb.trans (hn.mono kb.size)
 have q2 : FtI w r v b g N p A F f0 R (w1.heap.size + 1) S [] w6 :=
  ⟨(hn.block _ h2.lt).trans h2, hr.keep (hy.block _ hr.lt), ⟨f0, hm.of_block (hy.block _ hm.lt), Kn.nil _ _ _ _⟩, by rw [show preM ([] : List (Mb S)) = [] from rfl, readAt_nil]; exact hV.arr.below hy (Nat.le_refl _), Outside.of_all hy _, by omega⟩
 have qd := hide q1
 have km := hide2 q2 hy
 have HZ := hide2 kj kk
 clear q1 q2 h2 kb hy hn q0 kc kj
 rename_i hK
 refine hK _ _ ?_
 clear hK
 simp only [Act.putFrom, Act.put, List.setIfInBounds_toArray, List.set_cons_succ, List.set_cons_zero]
 gi_wp2
 obtain ⟨kj, qe, kk⟩ : w.heap.size + 1 ≤ w1.heap.size ∧ w1.heap.size ≤ w.heap.size + 1 ∧ w6.heap.size = w1.heap.size + 1 := by have := HZ.out; omega
 rw [← kk] at km
 refine wpIn_rangeFunc_ownG rfl (by have := HN.out; omega) (gf := 137) (lb := #[.pointer (some ⟨w1.heap.size, 0, none⟩)]) rfl trivial (enters_of Tryz.func137 (by kernel_rfl) rfl)
  (members_mb (n - 1) w1.heap.size S hS w6 (by omega) qd.out (by have := hV.room; omega) (hV.tab.mono (by exact hV.tab.lt) km.out.2)) (fun h k => kpT_t h k) (kpT_b (by have := hV.room; omega)) (Below.refl _ _) (fun _ => rfl)
  (FtI w r v b g N p A F f0 R w6.heap.size S) (fun _ _ _ => False) (FtI.own (by omega) qb qc hs) (fun _ _ _ _ _ h _ _ => h.elim) km.out.1
  (fun x => { tmps := #[.pointer (some ⟨r, 0, none⟩), .int .u64 (S : Int), .pointer (some ⟨w.heap.size, 0, none⟩), undef, .int .i64 (x.1 : Int), undef, undef, undef, undef, .int .u64 (S : Int), .pointer (some ⟨r, 0, none⟩), .pointer (some ⟨r, 0, none⟩), .pointer (some ⟨r, 3, none⟩), .int .u64 0, .int .u64 (S : Int), .pointer (some ⟨r, 0, none⟩), .pointer (some ⟨r, 0, none⟩), .pointer (some ⟨r, 4, none⟩), .int .u64 0, .int .u64 (S : Int), .func (.func 137) #[] #[.pointer (some ⟨w1.heap.size, 0, none⟩)], .int .i64 (x.1 : Int), undef, undef, undef, undef, undef, undef, undef, undef, undef, undef, undef, undef, undef, undef, undef, undef, undef, undef, undef, undef, undef, undef, undef, undef, undef, undef, undef, undef, undef, undef, undef, undef, undef, undef, undef, undef, undef, undef, undef, undef, undef, undef, undef, undef, undef, undef, undef, undef, undef, undef, undef, undef, undef, undef, undef, undef, undef, undef, undef, undef, undef, undef, undef, undef, undef, undef, undef, undef, undef, undef, undef, undef, undef, undef, undef, undef, undef, undef], defers := [] }) ?assign ?body ?done ?stop
 case assign =>
  intro l2 x X Kk hK
  unfold encMb
  gi_wp2
  exact hK
 case body =>
  rintro l2 pre x X hi kn
  clear kn
  have hp : x.1 ∈ mems S := mem_mems.2 x.2
  obtain ⟨q3, qf⟩ := q8 _ hp
  have qz := hi.b2.lt
  have c2 := hi.b2.cell
  obtain ⟨c0, c1, cs, c3, c4⟩ := hi.rd.cells
  obtain ⟨f, h4, h5⟩ := hi.row
  have cg := h4.cell (i := x.1) q3
  have qg : ¬ F.has p A.n w.heap.size := fun q => by have := hs _ q; omega
  by_cases h6 : x.1 ∈ preM pre
  · obtain ⟨bl, qh, qi, qj, qk⟩ := h5.2 _ h6
    rw [qh] at cg
    have HI := hide hi
    have HK := hide h5
    have HR := hide h4
    clear hi h5 h4
    gi_wp2
    rename_i k5
    refine k5 _ _ ?_
    clear k5
    simp only [Act.put, List.setIfInBounds_toArray, List.set_cons_succ, List.set_cons_zero, Bool.not_false]
    gi_wp2
    have hi := HI.out
    refine ⟨⟨Nat.le_refl _, fun k o _ ho _ => ho⟩, fun _ => hV.tab.keep (hi.out.block _ hV.tab.lt (fun q => q.elim (fun e => by have := hV.tab.lt; have h9 : 1 < 3 := (by decide); omega) hF.t)), ?_⟩
    refine ⟨hi.b2, hi.rd, ⟨f, HR.out, ?_⟩, ?_, hi.out, hi.size⟩
    · rw [preM_snoc]
      refine ⟨fun i hh => HK.out.1 i (fun q => hh (List.mem_append_left _ q)), fun i hh => HK.out.2 i ?_⟩
      rcases List.mem_append.1 hh with q | q
      · exact q
      · rw [List.mem_singleton.1 q]; exact h6
    · rw [preM_snoc, readAt_dup A (preM pre) x.1 h6]; exact hi.arr
  · have qm : f x.1 = .slice none 0 0 := (h5.1 _ h6).trans (q9 _ hp)
    rw [qm] at cg
    have hq : Vol X v p D L G ps ho (A.readAt (preM pre)) F := ⟨hV.vol.keep (hi.out.block _ hV.vol.lt (fun q => q.elim qa hF.v)), hi.arr, hV.laid.keep (hi.out.block _ hV.laid.lt (fun q => q.elim (fun e => by have h9 : 2 < 3 := (by decide); omega) hF.g)), hV.tab.keep (hi.out.block _ hV.tab.lt (fun q => q.elim (fun e => by have h9 : 1 < 3 := (by decide); omega) hF.t)), Nat.le_trans hV.room hi.out.size⟩
    have HI := hide4 hi h5 h4 hq
    clear hi h5 h4 hq
    gi_wp2
    rename_i k5
    refine k5 _ _ ?_
    clear k5
    simp only [Act.put, List.setIfInBounds_toArray, List.set_cons_succ, List.set_cons_zero]
    gi_wp2
    obtain ⟨hi, h5, h4, hq⟩ := HI.out
    refine fetch_region4 hq hF (hf.readAt _) x.1 qf hb hw (hl _ hp) (kg _ hp) hi.b2 hi.rd qg ki (R x.1) (hR _ hp) (kh _ hp) (by kernel_rfl) rfl rfl rfl ?_
    intro w2 ko hj
    rw [readAt_snoc A (preM pre) x.1 h6] at ko
    have kd : ∀ k, w.heap.size ≤ k → k < X.heap.size → w2.heap[k]? = X.heap[k]? := fun k hk k6 => hj.block k k6 (fun q => by have := hs k q; omega)
    have x0 := ta_shard
    have kp : (R x.1).length = 44 := (hR _ hp).1
    have q4 := hide ko
    have q5 := hide2 hj kd
    clear hi h5 h4 hq ko hj kd c0 c1 cs c3 c4 cg c2
    rename_i hK
    refine hK _ _ ?_
    clear hK
    simp only [Act.putFrom, Act.put, List.setIfInBounds_toArray, List.set_cons_succ, List.set_cons_zero, recV]
    gi_wp2_with (show wpListIn _ _ _ _ _ ({ dst := none, op := Op.store 200 (.tmp 7) (.tmp 46), type := _, pos := _, after := _, guard := _ } :: _) _ _; refine in_shard_new (w := w2) (l := R x.1) rfl (.tmp 7) (.tmp 46) rfl (by rfl) (by rfl) (by rfl) kp ?_)
    obtain ⟨hj, kd⟩ := q5.out
    obtain ⟨hi, h5, h4, hq⟩ := HI.out
    have x1 : X.heap.size ≤ w2.heap.size := hj.size
    have h7 : Below w2.heap.size w2 (w2.alloc (.cells (bts (R x.1)).toArray 200)) := (Below.refl _ w2).alloc (Nat.le_refl _) _
    have kr : (w2.alloc (.cells (bts (R x.1)).toArray 200)).heap[w2.heap.size]? = some (.cells (bts (R x.1)).toArray 200 (0, 0)) := blk_alloc_new _ _
    have qn : (w2.alloc (.cells (bts (R x.1)).toArray 200)).heap.size = w2.heap.size + 1 := by simp
    obtain ⟨w3, q6⟩ : ∃ w3, w2.alloc (.cells (bts (R x.1)).toArray 200) = w3 := ⟨_, rfl⟩
    rw [q6] at h7 kr qn ⊢
    have k7 : ∀ k, k < X.heap.size → ¬ F.has p A.n k → w3.heap[k]? = X.heap[k]? := fun k hk qo => (h7.block k (by omega)).trans (hj.block k hk qo)
    have ks : ∀ k, w.heap.size ≤ k → k < X.heap.size → w3.heap[k]? = X.heap[k]? := fun k hk k6 => k7 k k6 (fun q => by have := hs k q; omega)
    have h8 : w3.rowIs g 31 N f := h4.of_block (k7 g h4.lt ky)
    refine fetch_region8 (show Boxed w3 w.heap.size 128 (.pointer (some ⟨r, 0, none⟩)) from (ks _ (Nat.le_refl _) (by omega)).trans hi.b2) (hi.rd.keep (k7 r hi.rd.lt ki)) h8 x.1 q3 (by omega) kz (by kernel_rfl) rfl rfl rfl rfl ?_
    intro w4 k8
    have ha : ∀ k, k ≠ g → w4.heap[k]? = w3.heap[k]? := fun k hk => by rw [k8]; exact blk_setCell_other _ _ _ _ hk
    have x2 : w4.heap.size = w3.heap.size := by rw [k8]; simp [World.setCell]
    have h0 := h8.set x.1 (.slice (some ⟨w2.heap.size, 0, none⟩) 44 44)
    have he : w4.rowIs g 31 N (fun i => if i = x.1 then .slice (some ⟨w2.heap.size, 0, none⟩) 44 44 else f i) := by rw [k8]; exact h0
    have hz : ∀ k, w.heap.size ≤ k → k < X.heap.size → w4.heap[k]? = X.heap[k]? := fun k hk k6 => (ha k (by omega)).trans (ks k hk k6)
    have k9 : Outside (fun k => k = g ∨ F.has p A.n k) w w4 := by
     have h3 : Outside (fun k => k = g ∨ F.has p A.n k) w w3 := (hi.out.trans (hj.mono fun _ _ q => .inr q)).trans (Outside.of_all h7 _)
     rw [k8]
     exact (h3.trans (Outside.drew w3)).trans (Outside.setCell _ _ _ (.inl rfl))
    have ke : ArrAt w4 p (A.readAt (preM pre ++ [x.1])) F := q4.out.keep fun k hk => by
     have := hs k hk
     exact (ha k (fun e => ky (by rw [← e]; exact hk))).trans (h7.block k (by omega))
    have hg : Kn w4 w.heap.size f0 (fun i => if i = x.1 then .slice (some ⟨w2.heap.size, 0, none⟩) 44 44 else f i) R (preM pre ++ [x.1]) := by
     have q7 := h5.keep (w' := w4) (by omega) fun k o hk ho _ => (hz k hk (Array.getElem?_eq_some_iff.1 ho).1).trans ho
     refine ⟨fun i hh => ?_, fun i hh => ?_⟩
     · have h1 : i ≠ x.1 := fun e => hh (by rw [e]; simp)
       show (if i = x.1 then _ else f i) = _
       rw [if_neg h1]
       exact q7.1 i (fun q => hh (List.mem_append_left _ q))
     · show ∃ bl, (if i = x.1 then _ else f i) = _ ∧ _
       by_cases e : i = x.1
       · rw [if_pos e, e]
         exact ⟨w2.heap.size, rfl, by omega, by omega, (ha _ (by omega)).trans kr⟩
       · rw [if_neg e]
         rcases List.mem_append.1 hh with q | q
         · exact q7.2 i q
         · exact absurd (List.mem_singleton.1 q) e
    have H4 := hide5 he hz k9 ke hg
    have kv := hide (hi.rd.keep ((ha r kz).trans (k7 r hi.rd.lt ki)))
    have kx : X.heap.size ≤ w4.heap.size := by omega
    clear h0 he hz k9 ke hg ha k8 h8 k7 ks h7 kr hi h5 h4 hq hj kd q6 q4 q5
    rename_i hK
    refine hK _ _ ?_
    clear hK
    simp only [Act.putFrom, Act.put, List.setIfInBounds_toArray, List.set_cons_succ, List.set_cons_zero]
    gi_wp2
    obtain ⟨h0, hz, k9, ke, hg⟩ := H4.out
    have hi := HI.out.1
    have x3 := hi.size
    refine ⟨⟨kx, fun k o hk ho _ => (hz k (by omega) (Array.getElem?_eq_some_iff.1 ho).1).trans ho⟩, fun _ => hV.tab.keep (k9.block _ hV.tab.lt (fun q => q.elim (fun e => by have h9 : 1 < 3 := (by decide); omega) hF.t)), ?_⟩
    exact ⟨(hz _ (Nat.le_refl _) (by omega)).trans hi.b2, kv.out, ⟨_, h0, by rw [preM_snoc]; exact hg⟩, by rw [preM_snoc]; exact ke, k9, by omega⟩
 case done =>
  rintro D' xs X qp qq hi hK
  have x4 := (Array.getElem?_eq_some_iff.1 hK).1
  have ka : preM xs = mems S := qq
  obtain ⟨f, h4, h5⟩ := hi.row
  have kf : ∀ k, k < w.heap.size + 1 → (X.putObj D' (.deferred none)).heap[k]? = X.heap[k]? := fun k hk => World.putObj_heap_other (by omega)
  refine end_none Tryz.results110 rfl hK ⟨rfl, hi.rd.keep (kf _ (by omega)), ⟨f, h4.of_block (kf _ (by omega)), ?_⟩, ?_, ?_⟩
  · rw [← ka]
    refine h5.keep (by simp [World.putObj]) fun k o hk ho hc => (World.putObj_heap_other (fun e => ?_)).trans ho
    rw [e, hK] at ho
    cases ho
    cases hc
  · rw [← ka]
    exact hi.arr.keep fun k hk => kf k (by have := hs k hk; omega)
  · exact hi.out.later (T := fun k => w.heap.size ≤ k) ⟨rfl, rfl, rfl, by simp [World.putObj], fun k qs qv => kf k (by omega)⟩ (fun k qs qv => by omega)
 case stop =>
  rintro D' cc pre X qp qx hx hK
  exact hx.elim
end
theorem and_zero64 (S : Nat) (hS : S < 65536) : bits .and .u64 (S : Int) 0 = 0 := by
 have := bits_and_u64_nat S 0 (by omega) (by decide)
 simpa using this
theorem or_zero64 : bits .or .u64 0 0 = 0 := by decide
def KwPost (w : World) (r v b g N p : Nat) (A : Arr) (F : Foot) (f0 : Nat → Value) (R : Nat → List Nat) (S : Nat) (w' : World) : Prop := RdAt w' r v b g N 0 0 ∧ (∃ f, w'.rowIs g 31 N f ∧ Kn w' w.heap.size f0 f R (mems S)) ∧ ArrAt w' p (A.readAt (mems S)) F ∧ Outside (fun k => k = g ∨ F.has p A.n k) w w'
def KwR (w wr : World) : Prop := wr = w
theorem know_ok {A : Arr} (hV : Vol w v p D L G ps ho A F) (hF : Free F p A.n v) (hf : A.fit) (hr : RdAt w r v b g N 0 0) (h6 : w.rowIs g 31 N f0) (S : Nat) (hS : S < 65536) (ha : ∀ i, i ∈ mems S → i < N ∧ i < A.n) (hb : b < A.nb) (hw : A.wait ≠ 0)
 (hl : ∀ i, i ∈ mems S → A.lost i = false) (h7 : ∀ i, i ∈ mems S → A.bad i b = false) (hc : ∀ i, i ∈ mems S → f0 i = .slice none 0 0) (R : Nat → List Nat) (hR : ∀ i, i ∈ mems S → (Rec.shard (R i)).ok) (h8 : ∀ i, i ∈ mems S → A.blk i b = (Rec.shard (R i)).blk) (he : ¬ F.has p A.n g) (hg : ¬ F.has p A.n r) (hh : r ≠ g) (hi : v ≠ g) (hj : 3 ≤ g) :
 Calls Tryz.prog 96 #[.pointer (some ⟨r, 0, none⟩), .int .u64 S] w fun e w' => e = .returned .nilIface ∧ KwPost w r v b g N p A F f0 R S w' := by
 have h9 := fetch_ok hV hF hf hr h6 S hS ha hb hw hl h7 hc R hR h8 he hg hh hi hj
 have hk := and_zero64 S hS
 have hm := or_zero64
 go_enter Tryz.func96, Tryz.ntmps96
 go_wp2_with fail
 go_loopw [5] (fun _ wr => KwR w wr) (fun _ _ => 0)
 case atStart => exact rfl
 case round =>
  obtain rfl : w = wr := (show wr = w from hrel).symm
  go_wp2_with fail
  refine h9.mono ?_
  rintro e w1 ⟨rfl, h0⟩
  obtain ⟨_, _, _, d3, d4⟩ := h0.1.cells
  have H := hide h0
  clear h0 h9
  go_wp2_with fail
  go_quiet (fail)
  go_wp2
  go_ret
  obtain ⟨h1, ⟨f, h2, h3⟩, h4, h5⟩ := H.out
  exact ⟨rfl, h1, ⟨f, h2, h3⟩, h4.keep fun _ _ => rfl, ⟨h5.os, h5.tape, h5.output, h5.size, h5.block⟩⟩
theorem mems_first (h : k ≤ 16) : mems (2 ^ k - 1) = List.range k := mems_all h
theorem flat_len (R : Nat → List Nat) : ∀ m, (∀ i, i < m → (R i).length = 44) → ((List.range m).map R).flatten.length = 44 * m
 | 0, _ => rfl
 | m + 1, h => by
  rw [List.range_succ, List.map_append, List.flatten_append, List.length_append, flat_len R m fun i hi => h i (by omega)]
  simp [h m (by omega)]
  omega
theorem own_bs {M size : Nat} {u : Value} {fl : List Nat} (h : w.ownsRow base 5 1 u M (bts fl)) (hM : fl.length = M) (hx : ∀ x ∈ fl, x < 256) (hs : size ≤ M) (hc : M ≤ 1000000) : ∃ ao cp, u = .slice ao M cp ∧ M ≤ cp ∧ cp ≤ 9223372036854775807 ∧ (ao = none → M = 0 ∧ cp = 0) ∧ (∀ a, ao = some a → base ≤ a.block) ∧ Bs w (.slice ao size size) (fl.take size) := by
 have hl : (fl.take size).length = size := by rw [List.length_take]; omega
 rcases h.2 with ⟨hu, h0⟩ | ⟨gg, cp, cur, hu, h2, h3, h4, h5, he, h6⟩
 · have h8 : size = 0 := by omega
   subst h8
   exact ⟨none, 0, by rw [hu, h0], by omega, by omega, fun _ => ⟨h0, rfl⟩, fun a h => (by cases h), by rw [List.take_zero]; exact ⟨none, 0, rfl, Nat.le_refl _, by decide, fun _ h => (by cases h), fun h => absurd rfl h⟩⟩
 · have h9 : cp ≤ 9223372036854775807 := by unfold maxLen at h5; omega
   refine ⟨some ⟨gg, 0, none⟩, cp, hu, h4, h9, fun h => (by cases h), fun a h => (by cases h; exact h2), some ⟨gg, 0, none⟩, size, by rw [hl], by rw [hl]; exact Nat.le_refl _, ?_, fun x ha => hx x (List.mem_of_mem_take ha), fun _ => ⟨gg, 0, rfl, fun k hk => ?_⟩⟩
   · rw [hl]; omega
   · rw [hl] at hk
     have h1 : k < fl.length := by omega
     have q : cur[k]? = some (.int .u8 ((fl[k] : Nat) : Int)) := by
      have h7 := congrArg (fun l => l[k]?) h6
      simp only [Nat.mul_one, bts] at h7
      rw [List.getElem?_take_of_lt (by omega), Array.getElem?_toList, List.getElem?_map, List.getElem?_eq_getElem h1] at h7
      exact h7
     have e9 : (fl.take size).getD k 0 = fl[k] := by simp [List.getD_eq_getElem?_getD, hk, h1]
     rw [e9]
     simp [World.cell?, h3, q]
structure DtPost (w : World) (r v b g N p : Nat) (A : Arr) (F : Foot) (l : List Nat) (m : Nat) (u : Value) (w' : World) : Prop where
 rd : RdAt w' r v b g N 0 0
 row : ∃ f, w'.rowIs g 31 N f
 arr : ArrAt w' p (A.readAt (List.range m)) F
 out : Outside (fun k => k = r ∨ k = g ∨ F.has p A.n k) w w'
 bytes : Bs w' u l
 fresh : ∀ k, u.ownBlock = some k → w.heap.size ≤ k
 cap : ∃ ao n, u = .slice ao n n
theorem data_ok {b0 gone sp : Nat} {A : Arr} (hV : Vol w v p D L G ps 0 A F) (hF : Free F p A.n v) (hf : A.fit) (hr : RdAt w r v b0 g N gone sp) (h8 : w.rowIs g 31 N f0) (hN : 0 < N) (hb : b < A.nb) (hw : A.wait ≠ 0) (size : Nat)
 (m : Nat) (hm : m = (size + 43) / 44) (kk : m ≤ N) (km : m ≤ A.n) (ha : m ≤ 16) (hl : ∀ i, i < m → A.lost i = false) (hh : ∀ i, i < m → A.bad i b = false) (R : Nat → List Nat) (hR : ∀ i, i < m → (Rec.shard (R i)).ok) (hn : ∀ i, i < m → A.blk i b = (Rec.shard (R i)).blk) (ka : ¬ F.has p A.n g) (kb : ¬ F.has p A.n r) (kc : r ≠ g) (k0 : v ≠ g) (kn : v ≠ r) (ko : 3 ≤ g) (q0 : 3 ≤ r) :
 Calls Tryz.prog 62 #[.pointer (some ⟨r, 0, none⟩), .int .i64 b, .int .i64 size] w fun e w' => ∃ u, e = .returned (.tuple #[u, .nilIface]) ∧ DtPost w r v b g N p A F (((List.range m).map R).flatten.take size) m u w' := by
 have q2 : size ≤ 704 := by omega
 have h3 : mems (2 ^ m - 1) = List.range m := mems_first ha
 have hS : 2 ^ m - 1 < 65536 := by
  have : 2 ^ m ≤ 2 ^ 16 := Nat.pow_le_pow_right (by decide) ha
  omega
 obtain ⟨S, k5⟩ : ∃ S, 2 ^ m - 1 = S := ⟨_, rfl⟩
 rw [k5] at h3 hS
 have kd := turn_ok hr hV.vol h8 hN (fun e => kc e.symm) k0 b
 have kp : ∀ k, F.has p A.n k → k < w.heap.size := fun k hk => hV.arr.has_lt hk
 have q5 := hr.lt
 have q6 := h8.lt
 have H0 := hide2 hV hn
 have e1 : ((size : Nat) : Int) + 44 - 1 = ((size + 43 : Nat) : Int) := by omega
 have e2 : ((size + 43 : Nat) : Int) / 44 = (m : Int) := by omega
 clear hr h8 hV hn
 go_enter Tryz.func62, Tryz.ntmps62
 go_wp2_with fail
 refine kd.mono ?_
 rintro e w1 ⟨rfl, ke, h7, hc⟩
 have k6 : Vol w1 v p D L G ps 0 A F := by
  have hV := H0.out.1
  refine ⟨hV.vol.keep (hc.block _ hV.vol.lt (fun q => q.elim kn k0)), hV.arr.keep fun k hk => hc.block k (kp k hk) (fun q => q.elim (fun e => kb (by rw [← e]; exact hk)) (fun e => ka (by rw [← e]; exact hk))), hV.laid.keep (hc.block _ hV.laid.lt (fun q => ?_)), hV.tab.keep (hc.block _ hV.tab.lt (fun q => ?_)), Nat.le_trans hV.room hc.size⟩
  · have h9 : 2 < 3 := by decide
    omega
  · have h9 : 1 < 3 := by decide
    omega
 have kf := know_ok k6 hF hf ke h7 S hS (fun i hi => by rw [h3, List.mem_range] at hi; omega) hb hw (fun i hi => hl i (by rw [h3, List.mem_range] at hi; exact hi)) (fun i hi => hh i (by rw [h3, List.mem_range] at hi; exact hi)) (fun _ _ => rfl) R (fun i hi => hR i (by rw [h3, List.mem_range] at hi; exact hi)) (fun i hi => H0.out.2 i (by rw [h3, List.mem_range] at hi; exact hi)) ka kb kc k0 ko
 have H1 := hide3 kf hc k6
 clear kd ke h7 hc k6 kf
 go_wp2_with fail
 rw [show ((size : Int) + 43) / 44 = (m : Int) by omega]
 refine (first_any m ha w1).mono ?_
 rw [k5]
 rintro e w2 ⟨rfl, rfl⟩
 clear e1 e2
 go_wp2_with fail
 refine H1.out.1.mono ?_
 rintro e w3 ⟨rfl, hg, ⟨f, h0, k7⟩, hp, kg⟩
 rw [h3] at k7 hp
 obtain ⟨_, _, d2, _, _⟩ := hg.cells
 have h4 : ((List.range m).map R).length = m := by simp
 have hq : Rws w3 0 g ((List.range m).map R) := by
  refine ⟨Nat.zero_le _, h0.lt, fun i hi => ?_⟩
  rw [h4] at hi
  obtain ⟨bl, q1, _, q3, q4⟩ := k7.2 i (List.mem_range.2 hi)
  have cg := h0.cell (i := i) (by omega)
  rw [q1] at cg
  have kh := hR i hi
  have e : ((List.range m).map R)[i]'(by rw [h4]; exact hi) = R i := by simp
  rw [e]
  exact ⟨bl, 0, 44, cg, Nat.zero_le _, q3, fun j u hj => by simp [World.cell?, q4]; simpa using hj, kh.1, kh.2⟩
 have k8 := concat_ok (c := N) hq (by rw [h4]; omega)
 rw [h4] at k8
 have h5 : Outside (fun k => k = r ∨ k = g ∨ F.has p A.n k) w w3 := (H1.out.2.1.mono fun _ _ q => q.elim .inl (fun e => .inr (.inl e))).trans (kg.mono fun _ _ q => .inr q)
 have H3 := hide5 hg h0 hp h5 k8
 clear hg h0 k7 hp kg k8 h5 hq h4
 go_wp2_with fail
 rw [show (size + 43) / 44 = m from hm.symm]
 refine H3.out.2.2.2.2.mono ?_
 rintro e w4 ⟨u, rfl, hs, he⟩
 have ki : ((List.range m).map R).flatten.length = 44 * m := flat_len R m (fun i hi => (hR i hi).1)
 have kj : ∀ x ∈ ((List.range m).map R).flatten, x < 256 := fun x hx => by
  obtain ⟨l, kr, ks⟩ := List.mem_flatten.1 hx
  obtain ⟨i, kv, rfl⟩ := List.mem_map.1 kr
  exact (hR i (List.mem_range.1 kv)).2 x ks
 have k9 : size ≤ 44 * m := by omega
 obtain ⟨ao, cp, rfl, hy, kx, ky, h6, hz⟩ := own_bs hs ki kj k9 (by omega)
 have H4 := hide3 he hz h6
 obtain ⟨M, hM⟩ : ∃ M, 44 * m = M := ⟨_, rfl⟩
 rw [hM] at k9 hy ⊢
 have kz : size ≤ cp := Nat.le_trans k9 hy
 have q7 : M ≤ 704 := by omega
 clear he hz h6 hs ki kj hM hm kk km d2 H0 hR hl hh h3 k5 hS H1
 go_wp2
 go_ret2
 obtain ⟨hg, h0, hp, h5, _⟩ := H3.out
 obtain ⟨he, hz, h6⟩ := H4.out
 refine ⟨_, rfl, hg.keep (he.block _ hg.lt), ⟨_, h0.of_block (he.block _ h0.lt)⟩, hp.below he (Nat.le_refl _), h5.trans (Outside.of_all he _), hz, fun k hk => ?_, ⟨_, _, rfl⟩⟩
 cases ao with
 | none => simp [Value.ownBlock] at hk
 | some a =>
  simp [Value.ownBlock] at hk
  have h1 := h6 a rfl
  have h2 := h5.size
  omega
def tabN (c j : Nat) : Nat := if j < 16 then gm c j else gm c ((j - 16) * 16)
def tv (f : Nat → Nat) (j : Nat) : Value := .int .u8 ((f j : Nat) : Int)
theorem mul_eq {y : Int} (a b : Nat) (hx : x = (a : Int)) (hy : y = (b : Int)) (ha : a < 256) (hb : b < 256) (w : World) :
 Calls Tryz.prog 171 #[.int .u8 x, .int .u8 y] w fun e w' => e = .returned (.int .u8 ((gm a b : Nat) : Int)) ∧ w' = w := by
 subst hx hy; exact mul_any a b ha hb w
def mulTo (c n j : Nat) : Nat := if j < n then gm c j else 0
def pw2 (q : Nat) : Prop := q = 1 ∨ q = 2 ∨ q = 4 ∨ q = 8 ∨ q = 16
def MulR (w : World) (B c : Nat) (i d : Value) (wr : World) : Prop :=
 ∃ q : Nat, pw2 q ∧ i = .int .i64 q ∧ d = .int .u8 ((gm c q : Nat) : Int) ∧ wr.rowIs (B + 1) 229 16 (tv (mulTo c q)) ∧ wr.rowIs B 229 16 (fun _ => .int .u8 0) ∧ Below B w wr
def MulR2 (w : World) (B c q : Nat) (i : Value) (wr : World) : Prop :=
 ∃ k : Nat, k ≤ q ∧ i = .int .i64 k ∧ wr.rowIs (B + 1) 229 16 (tv (mulTo c (q + k))) ∧ wr.rowIs B 229 16 (fun _ => .int .u8 0) ∧ Below B w wr
theorem zero16 (w : World) : (w.alloc (.cells (Array.replicate 16 (.int .u8 0)) 229)).rowIs w.heap.size 229 16 (fun _ => .int .u8 0) := by
 have h := World.rowIs_alloc w (Array.replicate 16 (.int .u8 0)) 229 (fun _ => .int .u8 0) (fun i hi => by simp at hi; simp [hi])
 simpa using h
theorem zero32 (w : World) : (w.alloc (.cells (Array.replicate 32 (.int .u8 0)) 306)).rowIs w.heap.size 306 32 (fun _ => .int .u8 0) := by
 have h := World.rowIs_alloc w (Array.replicate 32 (.int .u8 0)) 306 (fun _ => .int .u8 0) (fun i hi => by simp at hi; simp [hi])
 simpa using h
theorem xor_pow1 : ∀ i, i < 1 → i ^^^ 1 = 1 + i := by decide
theorem xor_pow2 : ∀ i, i < 2 → i ^^^ 2 = 2 + i := by decide
theorem xor_pow4 : ∀ i, i < 4 → i ^^^ 4 = 4 + i := by decide
theorem xor_pow8 : ∀ i, i < 8 → i ^^^ 8 = 8 + i := by decide
theorem xor_pow {i : Nat} (hq : pw2 q) (h0 : q < 16) (h : i < q) : i ^^^ q = q + i := by
 rcases hq with rfl | rfl | rfl | rfl | rfl
 · exact xor_pow1 i h
 · exact xor_pow2 i h
 · exact xor_pow4 i h
 · exact xor_pow8 i h
 · omega
theorem tx_gm1 : ∀ c, c < 256 → tx (gm c 1) = gm c 2 := by decide +kernel
theorem tx_gm2 : ∀ c, c < 256 → tx (gm c 2) = gm c 4 := by decide +kernel
theorem tx_gm4 : ∀ c, c < 256 → tx (gm c 4) = gm c 8 := by decide +kernel
theorem tx_gm8 : ∀ c, c < 256 → tx (gm c 8) = gm c 16 := by decide +kernel
theorem tx_gm (hq : pw2 q) (h0 : q < 16) (hc : c < 256) : tx (gm c q) = gm c (q * 2) := by
 rcases hq with rfl | rfl | rfl | rfl | rfl
 · exact tx_gm1 c hc
 · exact tx_gm2 c hc
 · exact tx_gm4 c hc
 · exact tx_gm8 c hc
 · omega
theorem pw2_next (hq : pw2 q) (h0 : q < 16) : pw2 (q * 2) := by unfold pw2 at *; omega
theorem mulTo_step (hq : pw2 q) (h0 : q < 16) (hk : k < q) (j : Nat) : tv (mulTo c (q + (k + 1))) j = if j = q + k then .int .u8 ((mulTo c (q + k) k ^^^ gm c q : Nat) : Int) else tv (mulTo c (q + k)) j := by
 unfold tv mulTo
 by_cases h1 : j = q + k
 · rw [if_pos h1, if_pos (by omega), if_pos (by omega), ← gm_add, xor_pow hq h0 hk, h1]
 · rw [if_neg h1]
   by_cases h2 : j < q + k
   · rw [if_pos h2, if_pos (by omega)]
   · rw [if_neg h2, if_neg (by omega)]
theorem one_cells (hs : cs.size = n) (h : ∀ j, j < n → cs[j]? = some (tv f j)) : cs.all (fun v => v.oneCell') = true := by
 rw [Array.all_eq_true]
 intro i hi
 have := h i (by omega)
 rw [Array.getElem?_eq_getElem hi] at this
 simp at this
 rw [this]; rfl
theorem timesX_eq (a : Nat) (hx : x = (a : Int)) (h : a < 256) (w : World) : Calls Tryz.prog 186 #[.int .u8 x] w fun e w' => e = .returned (.int .u8 (tx a : Int)) ∧ w' = w := by
 subst hx; exact timesX_any a h w
theorem mulTo_lt (c n j : Nat) (hc : c < 256) : mulTo c n j < 256 := by
 unfold mulTo; split
 · exact gm_lt _ hc
 · decide
theorem Tryz.infoArr16 : (Tryz.prog.info? 229).map (fun i => i.size) = some 16 := by kernel_rfl
theorem multiples_any (c : Nat) (hc : c < 256) (w : World) :
 Calls Tryz.prog 196 #[.int .u8 c] w fun e w' => ∃ cs : Array Value, e = .returned (.agg cs) ∧ cs.size = 16 ∧ (∀ j, j < 16 → cs[j]? = some (tv (mulTo c 16) j)) ∧ Below w.heap.size w w' := by
 go_enter Tryz.func196, Tryz.ntmps196
 go_wp2
 go_loopw [4, 0] (fun i d wr => MulR w w.heap.size c i d wr) (fun i _ _ => 16 - (intOf i).toNat)
 case atStart =>
  refine ⟨1, .inl rfl, rfl, by rw [gm_one c hc], ?_, ?_, ?_⟩
  · have h := zero16 (w.alloc (.cells (Array.replicate 16 (.int .u8 0)) 229))
    rw [nblk_alloc] at h
    refine h.congr fun j hj => ?_
    unfold tv mulTo
    by_cases e : j < 1
    · rw [if_pos e, show j = 0 by omega, gm_zero]; rfl
    · rw [if_neg e]; rfl
  · exact (zero16 w).alloc _
  · exact ((Below.refl _ _).alloc (Nat.le_refl _) _).alloc (by rw [nblk_alloc]; omega) _
 case round =>
  obtain ⟨q, hq, rfl, rfl, hR, hZ, hb⟩ := hrel
  have h2 : q ≤ 16 := by unfold pw2 at hq; omega
  have h5 : gm c q < 256 := gm_lt _ hc
  by_cases h3 : q < 16
  · have hp : q ≤ 8 := by unfold pw2 at hq; omega
    have HQ := hide hq
    have H0 := hide (show MulR2 w w.heap.size c q (.int .i64 (0 : Nat)) wr from ⟨0, Nat.zero_le _, rfl, hR, hZ, hb⟩)
    clear hR hZ hb hq
    have hr : (q : Int) < 16 := by omega
    rename World => wo
    go_wp2
    go_loopw [11] (fun i wr => MulR2 w w.heap.size c q i wr) (fun i _ => q - (intOf i).toNat)
    case atStart => exact H0.out
    case round =>
     obtain ⟨k, hk, rfl, hR, hZ, hb⟩ := hrel
     by_cases he : k < q
     · have c1 := hR.cell (i := k) (by omega)
       have c2 := hR.cell (i := q + k) (by omega)
       have f2 := hR.frozen (q + k)
       have hf := mulTo_lt c (q + k) k hc
       have hs := u8_xor _ _ hf h5
       have h6 := (hR.set (q + k) (.int .u8 ((mulTo c (q + k) k ^^^ gm c q : Nat) : Int))).congr (fun j hj => (mulTo_step HQ.out h3 he j).symm)
       have h7 := hZ.setOther (a := ⟨w.heap.size + 1, q + k, none⟩) (by simp) (.int .u8 ((mulTo c (q + k) k ^^^ gm c q : Nat) : Int))
       have h8 := hb.setCell (p := ⟨w.heap.size + 1, q + k, none⟩) (by simp) (.int .u8 ((mulTo c (q + k) k ^^^ gm c q : Nat) : Int))
       have HH := hide3 h6 h7 h8
       clear h6 h7 h8 hR hZ hb
       unfold tv at c1 c2
       have hg : (k : Int) < q := by omega
       have hm : (k : Int) < 16 := by omega
       have hx : (q : Int) + (k : Int) < 16 := by omega
       have hy : IntKind.i64.wrap ((q : Int) + (k : Int)) = ((q + k : Nat) : Int) := by rw [IntKind.wrap_i64]; omega
       have hz : wrap64 ((q : Int) + (k : Int)) = ((q + k : Nat) : Int) := by unfold wrap64; omega
       go_wp2
       go_roundw
       case rel => exact ⟨k + 1, by omega, by go_num, HH.out.1, HH.out.2.1, HH.out.2.2⟩
       case measure => simp [intOf]; omega
     · have hn : k = q := by omega
       have HR := hide3 hR hZ hb
       clear hR hZ hb
       have hg : ¬ ((k : Int) < q) := by omega
       go_wp2_with fail
       refine (timesX_eq (gm c q) rfl h5 _).mono ?_
       rintro e w' ⟨rfl, rfl⟩
       go_wp2
       go_roundw
       case rel => exact ⟨q * 2, pw2_next HQ.out h3, by go_num, by rw [tx_gm HQ.out h3 hc], by have := HR.out.1; rwa [hn, show q + q = q * 2 by omega] at this, HR.out.2.1, HR.out.2.2⟩
       case measure => have hh := HQ.out; unfold pw2 at hh; simp only [intOf]; omega
  · have h2 : q = 16 := by omega
    subst h2
    obtain ⟨cs, h9, h4, h0⟩ := hR
    obtain ⟨zs, ha, k0, _⟩ := hZ
    have h1 := one_cells h4 h0
    have HG := hide h0
    have hi : (Tryz.prog.info? 229).map (fun i => i.size) = some cs.size := by rw [Tryz.infoArr16, h4]
    have HI := hide hi
    have HC := hide h9
    have HZ := hide ha
    clear h0 hi h9 ha
    go_wp2_with (first
     | refine wpList_load_row rfl 229 (.tmp 3) rfl (w.heap.size + 1) rfl 229 cs (0, 0) _ HC.out Tryz.underlying229 rfl HI.out ?_
     | refine wpList_store_row rfl 229 (.tmp 2) (.tmp 26) rfl w.heap.size cs rfl rfl 229 zs HZ.out HI.out (by omega) h1 ?_)
    exact bodyPost_ret (v := .agg cs) (results_cell_row Tryz.results196 _ _ w.heap.size 229 cs (0, 0) _ rfl (setRow_heap _ _ zs cs _ _ HZ.out) Tryz.underlying229 rfl HI.out) rfl ⟨cs, rfl, h4, HG.out, below_setRow hb (Nat.le_refl _) cs⟩
theorem Tryz.infoTable : (Tryz.prog.info? 306).map (fun i => i.size) = some 32 := by kernel_rfl
theorem mulTo_tab (c j : Nat) (hc : c < 256) (hj : j < 32) : (if j < 16 then mulTo c 16 j else mulTo (gm c 16) 16 (j - 16)) = tabN c j := by
 unfold mulTo tabN
 by_cases h : j < 16
 · rw [if_pos h, if_pos h, if_pos h]
 · rw [if_neg h, if_neg h, if_pos (by omega), gm_assoc hc (by decide) (by omega)]
   congr 1
   have : ∀ x, x < 16 → gm 16 x = x * 16 := by decide +kernel
   exact this _ (by omega)
def tabCs (c : Nat) : Array Value := ((List.range 32).map (fun j => Value.int .u8 ((if j < 16 then mulTo c 16 j else mulTo (gm c 16) 16 (j - 16) : Nat) : Int))).toArray
theorem tabCs_size (c : Nat) : (tabCs c).size = 32 := by unfold tabCs; rw [List.size_toArray, List.length_map, List.length_range]
theorem tabCs_get (c j : Nat) (hc : c < 256) (hj : j < 32) : (tabCs c)[j]? = some (tv (tabN c) j) := by
 unfold tabCs tv
 simp only [List.getElem?_toArray, List.getElem?_map, List.getElem?_range hj, Option.map_some, mulTo_tab c j hc hj]
theorem tabCs_info (c : Nat) : (Tryz.prog.info? 306).map (fun i => i.size) = some (tabCs c).size := by rw [tabCs_size, Tryz.infoTable]
theorem arr16_eq (hs : cs.size = 16) (h : ∀ j, j < 16 → cs[j]? = some (tv f j)) :
 cs = #[tv f 0, tv f 1, tv f 2, tv f 3, tv f 4, tv f 5, tv f 6, tv f 7, tv f 8, tv f 9, tv f 10, tv f 11, tv f 12, tv f 13, tv f 14, tv f 15] := by
 have e : cs = ((List.range 16).map (tv f)).toArray := by
  refine Array.ext (by simp [hs]) fun i h1 h2 => ?_
  have := h i (by omega)
  rw [Array.getElem?_eq_getElem h1] at this
  simp at this ⊢
  exact this
 exact e
theorem tableOf_any (c : Nat) (hc : c < 256) (w : World) :
 Calls Tryz.prog 183 #[.int .u8 c] w fun e w' => ∃ cs : Array Value, e = .returned (.agg cs) ∧ cs.size = 32 ∧ (∀ j, j < 32 → cs[j]? = some (tv (tabN c) j)) ∧ Below w.heap.size w w' := by
 have hZ := zero32 w
 have hg : gm c 16 < 256 := gm_lt _ hc
 go_enter Tryz.func183, Tryz.ntmps183
 go_wp2_with fail
 refine (multiples_any c hc _).mono ?_
 rintro e w1 ⟨cs1, rfl, h3, h4, h0⟩
 obtain rfl := arr16_eq h3 h4
 clear h3 h4
 simp only [tv]
 go_wp2_with fail
 refine (mul_eq c 16 rfl rfl hc (by decide) _).mono ?_
 rintro e w' ⟨rfl, rfl⟩
 go_wp2_with fail
 refine (multiples_any (gm c 16) hg _).mono ?_
 rintro e w2 ⟨cs2, rfl, h5, h6, h1⟩
 obtain rfl := arr16_eq h5 h6
 clear h5 h6
 simp only [tv]
 obtain ⟨zs, h7, ha, _⟩ := hZ
 have h8 : w2.heap[w.heap.size]? = some (.cells zs 306 (0, 0)) := (h1.block _ (by have := h0.size; rw [nblk_alloc] at this; omega)).trans ((h0.block _ (by rw [nblk_alloc]; omega)).trans h7)
 have HZ := hide h8
 have HB : Hid (Below w.heap.size w w2) := hide ((((Below.refl _ w).alloc (Nat.le_refl _) _).trans (h0.mono (by rw [nblk_alloc]; omega))).trans (h1.mono (by have := h0.size; rw [nblk_alloc] at this; omega)))
 clear h0 h1 h7 h8
 have HI := hide (tabCs_info c)
 have HS : Hid (zs.size = (tabCs c).size) := hide (by rw [ha, tabCs_size])
 have H1 := hide (one_cells (tabCs_size c) (fun j hj => tabCs_get c j hc hj))
 have HE : Hid (∀ j, j < 32 → (tabCs c)[j]? = some (tv (tabN c) j)) := hide (fun j hj => tabCs_get c j hc hj)
 have h9 := hide (tabCs_size c)
 obtain ⟨cs, h2⟩ : ∃ cs, tabCs c = cs := ⟨_, rfl⟩
 rw [h2] at HI HS H1 HE h9
 have HC := hide h2
 clear h2
 go_wp2_with (refine wpList_store_row rfl 306 (.tmp 2) (.tmp 8) rfl w.heap.size cs rfl (by rw [← HC.out]; rfl) 306 zs HZ.out HI.out HS.out H1.out ?_)
 refine bodyPost_ret (v := .agg cs) (results_cell_row Tryz.results183 _ _ w.heap.size 306 cs (0, 0) _ rfl (setRow_heap _ _ zs cs _ _ HZ.out) Tryz.underlying306 rfl HI.out) rfl ?_
 exact ⟨cs, rfl, h9.out, HE.out, below_setRow HB.out (Nat.le_refl _) _⟩
def TableAt (w : World) (t c : Nat) : Prop := ∀ j, j < 32 → w.cell? ⟨t, j, none⟩ = some (tv (tabN c) j)
theorem split16 : ∀ b, b < 256 → b = (b % 16) ^^^ (b / 16 * 16) := by decide +kernel
theorem times_eq (c b : Nat) (hb : b < 256) : tabN c (b % 16) ^^^ tabN c (16 + b / 16) = gm c b := by
 unfold tabN
 rw [if_pos (by omega), if_neg (by omega), Nat.add_sub_cancel_left, ← gm_add, ← split16 b hb]
theorem tabN_lt (c j : Nat) (hc : c < 256) : tabN c j < 256 := by
 unfold tabN; split <;> exact gm_lt _ hc
theorem and15 (b : Nat) (hb : b < 256) : bits .and .u8 (b : Int) 15 = ((b % 16 : Nat) : Int) := by
 rw [u8_and15 _ (by omega) (by omega)]; rfl
theorem times_any (t c b : Nat) (hc : c < 256) (hb : b < 256) (w : World) (ht : TableAt w t c) :
 Calls Tryz.prog 184 #[.pointer (some ⟨t, 0, none⟩), .int .u8 b] w fun e w' => e = .returned (.int .u8 ((gm c b : Nat) : Int)) ∧ ∃ m, w' = w.drewN m := by
 have c1 := ht (b % 16) (by omega)
 have c2 := ht (16 + b / 16) (by omega)
 have x1 := tabN_lt c (b % 16) hc
 have x2 := tabN_lt c (16 + b / 16) hc
 have h0 := times_eq c b hb
 have h1 := and15 b hb
 have h2 := u8_xor _ _ x1 x2
 unfold tv at c1 c2
 rw [h0] at h2
 have h3 : (b : Int) < 256 := by omega
 clear ht h0
 go_enter Tryz.func184, Tryz.ntmps184
 go_wp2
 go_quiet (fail)
 go_wp2
 go_ret
 exact ⟨rfl, _, rfl⟩
end Go.Proofs.YtpaemkanfnddoaaGreatDoor
