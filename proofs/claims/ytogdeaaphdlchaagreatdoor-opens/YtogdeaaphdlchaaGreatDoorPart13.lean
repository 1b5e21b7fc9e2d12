import Derived.Test.YtogdeaaphdlchaaGreatDoorFetchRegions
import Derived.Deep.WholeRow
import Derived.Test.YtogdeaaphdlchaaGreatDoorPart02
import Derived.Laws.Tables
import Derived.Laws.CopyOwn
/-
  fetch: the shards of a set are read, where nothing is lost.
-/
namespace Go.Proofs.YtogdeaaphdlchaaGreatDoor
open Go.RowKit Go.Shelf Go.Deep Gf

attribute [local go_sem] Oper.semAt_some
theorem ta_shard (v : Value) (w : World) : (Instr.typeAssert (.iface 212 v) 125 212 true).run Tryz.prog w = .ok (.tuple #[v, .bool true]) w := by
  simp [Instr.typeAssert, run_underlying Tryz.underlying212]
theorem infoShard : (Tryz.prog.info? 212).map (·.size) = some 44 := by kernel_rfl
theorem shard_store (w : World) (z : Array Value) (hz : z.size = 44) (l : List Nat) (hl : l.length = 44) : (Instr.storeAt 212 (.pointer (some ⟨w.heap.size, 0, none⟩)) (.agg (bts l).toArray)).run Tryz.prog (w.alloc (.cells z 212)) = .ok () (w.alloc (.cells (bts l).toArray 212)) := by
  have hs : (bts l).toArray.size = 44 := by rw [List.size_toArray, bts_len, hl]
  have := run_storeVar_new (P := Tryz.prog) w 212 z (bts l).toArray (by rw [hs]; exact infoShard) (by rw [hs, hz]) (by
    rw [List.all_toArray, List.all_eq_true]
    intro u hu
    obtain ⟨x, _, rfl⟩ := List.mem_map.1 hu
    rfl)
  simp only [Instr.storeAt, Instr.sureAddr, Sem.run_bind, Sem.run_pure, Result.andThen_ok, this]
theorem in_shard_new {F : Fence} {n : Nat} {w : World} {ops : Array Oper} {rest : List Oper} {o : Oper} {a : Act} {Q : Exit → Act → World → Prop} (hg : o.guard = none) (x y : Operand) (ho : o.op = .store 212 x y) {z : Array Value} {l : List Nat}
    (hx : a.eval x = .pointer (some ⟨w.heap.size, 0, none⟩)) (hy : a.eval y = .agg (bts l).toArray) (hz : z.size = 44) (hl : l.length = 44) (h : wpListIn F n Tryz.prog ops Q rest (a.put o.dst undef) (w.alloc (.cells (bts l).toArray 212))) : wpListIn F n Tryz.prog ops Q (o :: rest) a (w.alloc (.cells z 212)) := by
  refine wpListIn_plain hg fun K hK' => ?_
  unfold Oper.wpIn
  refine ⟨by simp [Oper.about, ho], ?_⟩
  rw [Oper.semAt_plain F _ _ (by rw [ho]; intro c h; cases h)]
  simp [execOp, ho, hx, hy, shard_store w z hz l hl, Result.andThen]
  exact hK' _ _ h
/-- a function without results, behind a range over a function -/
theorem end_none {n : Nat} {fn : Func} {Z : World} {D' : Nat} {a : Act} {R : Ending → World → Prop} (hr : fn.results = #[]) (hd : a.defers = [{ target := .collected D', args := #[] }])
    (hK : Z.heap[D']? = some (.deferred (some []))) (hR : R (.returned (.tuple #[])) (Z.putObj D' (.deferred none))) : bodyPostM Fence.wide n Tryz.prog fn R .normal a Z := by
  obtain ⟨tm, df⟩ := a
  simp only at hd
  subst hd
  refine ⟨by simp, .inl ⟨_, _, rfl, run_takeDeferred hK, ?_⟩⟩
  refine ⟨.tuple #[], ?_, hR⟩
  simp [results, hr]
/-- drives of a list are read once more -/
def Arr.readAt (A : Arr) (ds : List Nat) : Arr := { A with reads := fun i => if i ∈ ds then wrap64 (A.reads i + 1) else A.reads i }
theorem readAt_nil (A : Arr) : A.readAt [] = A := by simp [Arr.readAt]
theorem readAt_snoc (A : Arr) (ds : List Nat) (d : Nat) (hd : d ∉ ds) : (A.readAt ds).setReads d (wrap64 ((A.readAt ds).reads d + 1)) = A.readAt (ds ++ [d]) := by
  unfold Arr.readAt Arr.setReads
  congr 1
  funext i
  simp only [List.mem_append, List.mem_singleton]
  by_cases e : i = d
  · subst e
    rw [if_pos rfl, if_neg hd, if_pos (.inr rfl)]
  · rw [if_neg e]
    by_cases e2 : i ∈ ds
    · rw [if_pos e2, if_pos (.inl e2)]
    · rw [if_neg e2, if_neg (fun q => q.elim e2 e)]
theorem readAt_dup (A : Arr) (ds : List Nat) (d : Nat) (hd : d ∈ ds) : A.readAt (ds ++ [d]) = A.readAt ds := by
  unfold Arr.readAt
  congr 1
  funext i
  simp only [List.mem_append, List.mem_singleton]
  by_cases e2 : i ∈ ds
  · rw [if_pos e2, if_pos (.inl e2)]
  · rw [if_neg e2, if_neg (fun q => q.elim e2 (fun e => e2 (by rw [e]; exact hd)))]
theorem Arr.fit.readAt {A : Arr} (h : A.fit) (ds : List Nat) : (A.readAt ds).fit := ⟨h.n, h.nb, h.len, h.byt⟩
/-- shards that are known: those of a list, in blocks that were made from base on; the others as they were -/
def Kn (w : World) (base : Nat) (f0 f : Nat → Value) (R : Nat → List Nat) (ds : List Nat) : Prop := (∀ i, i ∉ ds → f i = f0 i) ∧ ∀ i, i ∈ ds → ∃ bl, f i = .slice (some ⟨bl, 0, none⟩) 44 44 ∧ base ≤ bl ∧ bl < w.heap.size ∧ w.heap[bl]? = some (.cells (bts (R i)).toArray 212 (0, 0))
theorem Kn.keep {w w' : World} {base : Nat} {f0 f : Nat → Value} {R : Nat → List Nat} {ds : List Nat} (h : Kn w base f0 f R ds) (hz : w.heap.size ≤ w'.heap.size) (hk : ∀ k o, base ≤ k → w.heap[k]? = some o → o.isCells = true → w'.heap[k]? = some o) : Kn w' base f0 f R ds := by
  refine ⟨h.1, fun i hi => ?_⟩
  obtain ⟨bl, q1, q2, q3, q4⟩ := h.2 i hi
  exact ⟨bl, q1, q2, Nat.lt_of_lt_of_le q3 hz, hk bl _ q2 q4 rfl⟩
theorem Kn.nil (w : World) (base : Nat) (f0 : Nat → Value) (R : Nat → List Nat) : Kn w base f0 f0 R [] := ⟨fun _ _ => rfl, fun _ h => by cases h⟩
/-- between two shards -/
structure FtI (w : World) (r v b g N p : Nat) (A : Arr) (F : Foot) (f0 : Nat → Value) (R : Nat → List Nat) (B S : Nat) (pre : List (Mb S)) (X : World) : Prop where
  b2 : Boxed X w.heap.size 191 (.pointer (some ⟨r, 0, none⟩))
  rd : RdAt X r v b g N 0 0
  row : ∃ f, X.rowIs g 166 N f ∧ Kn X w.heap.size f0 f R (preM pre)
  arr : ArrAt X p (A.readAt (preM pre)) F
  out : Outside (fun k => k = g ∨ F.has p A.n k) w X
  size : B ≤ X.heap.size
theorem FtI.own {w : World} {r v b g N p : Nat} {A : Arr} {F : Foot} {f0 : Nat → Value} {R : Nat → List Nat} {B S : Nat} (hB : w.heap.size + 1 ≤ B) (hg : g < w.heap.size) (hr : r < w.heap.size) (hF : ∀ k, F.has p A.n k → k < w.heap.size) : OwnFrom B (FtI w r v b g N p A F f0 R B S) := by
  rintro pre X Y row ⟨h0, h1, ⟨f, h2, h2'⟩, h3, h4, h5⟩ hgr hrw
  have hk : ∀ k, k < w.heap.size + 1 → Y.heap[k]? = X.heap[k]? := fun k hk => hgr.block k (by omega) (fun e => by have := (hrw k e.symm).1; omega)
  refine ⟨(hk _ (by omega)).trans h0, h1.keep (hk _ (by omega)), ⟨f, h2.of_block (hk _ (by omega)), h2'.keep hgr.size fun k o _ ho hc => ?_⟩, h3.keep fun k hk' => hk k (by have := hF k hk'; omega), h4.later (T := fun k => w.heap.size ≤ k) ⟨hgr.os, hgr.tape, hgr.output, hgr.size, fun k hk1 hk2 => hk k (by omega)⟩ (fun k hk1 hk2 => by omega), Nat.le_trans h5 hgr.size⟩
  refine (hgr.block k (Array.getElem?_eq_some_iff.1 ho).1 (fun e => ?_)).trans ho
  obtain ⟨_, o', ho', hc'⟩ := hrw k e.symm
  rw [ho] at ho'
  cases ho'
  rw [hc] at hc'
  cases hc'
set_option maxRecDepth 100000 in
set_option maxHeartbeats 4000000 in
theorem fetch_ok {w : World} {r v p D L G ps ho b g N : Nat} {A : Arr} {F : Foot} {f0 : Nat → Value} (hV : Vol w v p D L G ps ho A F) (hF : Free F p A.n v) (hf : A.fit) (hr : RdAt w r v b g N 0 0) (hrow : w.rowIs g 166 N f0) (S : Nat) (hS : S < 65536) (hSn : ∀ i, i ∈ mems S → i < N ∧ i < A.n) (hb : b < A.nb) (hw : A.wait ≠ 0)
    (hl : ∀ i, i ∈ mems S → A.lost i = false) (hbad : ∀ i, i ∈ mems S → A.bad i b = false) (hf0 : ∀ i, i ∈ mems S → f0 i = .slice none 0 0) (R : Nat → List Nat) (hR : ∀ i, i ∈ mems S → (Rec.shard (R i)).ok) (hblk : ∀ i, i ∈ mems S → A.blk i b = (Rec.shard (R i)).blk) (hgF : ¬ F.has p A.n g) (hrF : ¬ F.has p A.n r) (hgr : r ≠ g) (hgv : v ≠ g) (hgK : 3 ≤ g) :
    Calls Tryz.prog 111 #[.pointer (some ⟨r, 0, none⟩), .int .u64 S] w fun e w' => e = .returned (.tuple #[]) ∧ RdAt w' r v b g N 0 0 ∧ (∃ f, w'.rowIs g 166 N f ∧ Kn w' w.heap.size f0 f R (mems S)) ∧ ArrAt w' p (A.readAt (mems S)) F ∧ Outside (fun k => k = g ∨ F.has p A.n k) w w' := by
  obtain ⟨n, HN⟩ : ∃ n : Nat, Hid (9 ≤ n) := ⟨9, Nat.le_refl _⟩
  have hFl : ∀ k, F.has p A.n k → k < w.heap.size := fun k hk => hV.arr.has_lt hk
  have hgl := hrow.lt
  have hrl := hr.lt
  refine (callsIn_wide (n := n)).1 ?_
  refine callsIn_of_wp_marks Tryz.func111 rfl trivial ?_ rfl
  simp only [Tryz.ntmps111, List.size_toArray, List.length_cons, List.length_nil, Nat.reduceAdd, Nat.reduceSub, Array.replicate_succ, Array.replicate_zero, List.push_toArray, List.append_toArray, List.nil_append, List.cons_append]
  gi_wp2
  obtain ⟨w1, hw1⟩ : ∃ w1, w.alloc (.cells #[.pointer (some ⟨r, 0, none⟩)] 191) = w1 := ⟨_, rfl⟩
  have h2 : Boxed w1 w.heap.size 191 (.pointer (some ⟨r, 0, none⟩)) := by rw [← hw1]; exact Boxed.new w _ _
  have hz1 : w1.heap.size = w.heap.size + 1 := by rw [← hw1]; simp
  have hb1 : Below w.heap.size w w1 := by rw [← hw1]; exact (Below.refl _ w).alloc (Nat.le_refl _) _
  rw [hw1]
  clear hw1
  have hr1 := hr.keep (hb1.block _ hr.lt)
  refine fetch_region1 h2 hr1 hS (by kernel_rfl) rfl rfl rfl ?_
  intro w6 hw6
  have hz6 : w6.heap.size = w1.heap.size + 1 := by rw [hw6]; simp
  have hc6 : w6.cell? ⟨w1.heap.size, 0, none⟩ = some (.int .u64 (S : Int)) := by rw [hw6]; exact (Boxed.new w1.drew 89 (.int .u64 (S : Int))).cell
  have hb16 : Below w1.heap.size w1 w6 := by rw [hw6]; exact (Below.refl _ w1).drew.alloc (Nat.le_refl _) _
  have hb6 : Below w.heap.size w w6 := hb1.trans (hb16.mono hb1.size)
  have hi6 : FtI w r v b g N p A F f0 R (w1.heap.size + 1) S [] w6 :=
    ⟨(hb16.block _ h2.lt).trans h2, hr.keep (hb6.block _ hr.lt), ⟨f0, hrow.of_block (hb6.block _ hrow.lt), Kn.nil _ _ _ _⟩, by rw [show preM ([] : List (Mb S)) = [] from rfl, readAt_nil]; exact hV.arr.below hb6 (Nat.le_refl _), Outside.of_all hb6 _, by omega⟩
  have HC6 := hide hc6
  have HI6 := hide (And.intro hi6 hb6)
  have HZ := hide (And.intro hz1 hz6)
  clear hc6 hi6 h2 hb1 hb6 hb16 hr1 hw6 hz1
  rename_i hK
  refine hK _ _ ?_
  clear hK
  simp only [Act.putFrom, Act.put, List.setIfInBounds_toArray, List.set_cons_succ, List.set_cons_zero]
  gi_wp2
  obtain ⟨hz1, hz1', hz6⟩ : w.heap.size + 1 ≤ w1.heap.size ∧ w1.heap.size ≤ w.heap.size + 1 ∧ w6.heap.size = w1.heap.size + 1 := by have := HZ.out; omega
  rw [← hz6] at HI6
  refine wpIn_rangeFunc_ownG rfl (by have := HN.out; omega) (gf := 85) (lb := #[.pointer (some ⟨w1.heap.size, 0, none⟩)]) rfl trivial (enters_of Tryz.func85 (by kernel_rfl) rfl)
    (members_mb (n - 1) w1.heap.size S hS w6 (by omega) HC6.out (by have := hV.room; omega) (hV.tab.mono (by exact hV.tab.lt) HI6.out.2)) (fun h k => kpT_t h k) (kpT_b (by have := hV.room; omega)) (Below.refl _ _) (fun _ => rfl)
    (FtI w r v b g N p A F f0 R w6.heap.size S) (fun _ _ _ => False) (FtI.own (by omega) hgl hrl hFl) (fun _ _ _ _ _ h _ _ => h.elim) HI6.out.1
    (fun x => { tmps := #[.pointer (some ⟨r, 0, none⟩), .int .u64 (S : Int), .pointer (some ⟨w.heap.size, 0, none⟩), undef, .int .i64 (x.1 : Int), undef, undef, undef, undef, .int .u64 (S : Int), .pointer (some ⟨r, 0, none⟩), .pointer (some ⟨r, 0, none⟩), .pointer (some ⟨r, 3, none⟩), .int .u64 0, .int .u64 (S : Int), .pointer (some ⟨r, 0, none⟩), .pointer (some ⟨r, 0, none⟩), .pointer (some ⟨r, 4, none⟩), .int .u64 0, .int .u64 (S : Int), .func (.func 85) #[] #[.pointer (some ⟨w1.heap.size, 0, none⟩)], .int .i64 (x.1 : Int), undef, undef, undef, undef, undef, undef, undef, undef, undef, undef, undef, undef, undef, undef, undef, undef, undef, undef, undef, undef, undef, undef, undef, undef, undef, undef, undef, undef, undef, undef, undef, undef, undef, undef, undef, undef, undef, undef, undef, undef, undef, undef, undef, undef, undef, undef, undef, undef, undef, undef, undef, undef, undef, undef, undef, undef, undef, undef, undef, undef, undef, undef, undef, undef, undef, undef, undef, undef, undef, undef, undef, undef, undef, undef, undef, undef, undef, undef], defers := [] }) ?assign ?body ?done ?stop
  case assign =>
    intro l2 x X Kk hK
    unfold encMb
    gi_wp2
    exact hK
  case body =>
    rintro l2 pre x X hi hlen
    clear hlen
    have hxm : x.1 ∈ mems S := mem_mems.2 x.2
    obtain ⟨hxN, hxn⟩ := hSn _ hxm
    have h2l := hi.b2.lt
    have c2 := hi.b2.cell
    obtain ⟨c0, c1, cs, c3, c4⟩ := hi.rd.cells
    obtain ⟨f, hfr, hkn⟩ := hi.row
    have cg := hfr.cell (i := x.1) hxN
    have hnx : ¬ F.has p A.n w.heap.size := fun q => by have := hFl _ q; omega
    by_cases hmem : x.1 ∈ preM pre
    · obtain ⟨bl, hbl, hbl1, hbl2, hbl3⟩ := hkn.2 _ hmem
      rw [hbl] at cg
      have HI := hide hi
      have HK := hide hkn
      have HR := hide hfr
      clear hi hkn hfr
      gi_wp2
      rename_i hKK
      refine hKK _ _ ?_
      clear hKK
      simp only [Act.put, List.setIfInBounds_toArray, List.set_cons_succ, List.set_cons_zero, Bool.not_false]
      gi_wp2
      have hi := HI.out
      refine ⟨⟨Nat.le_refl _, fun k o _ ho _ => ho⟩, fun _ => hV.tab.keep (hi.out.block _ hV.tab.lt (fun q => q.elim (fun e => by have := hV.tab.lt; have h9 : 1 < 3 := (by decide); omega) hF.t)), ?_⟩
      refine ⟨hi.b2, hi.rd, ⟨f, HR.out, ?_⟩, ?_, hi.out, hi.size⟩
      · rw [preM_snoc]
        refine ⟨fun i hi' => HK.out.1 i (fun q => hi' (List.mem_append_left _ q)), fun i hi' => HK.out.2 i ?_⟩
        rcases List.mem_append.1 hi' with q | q
        · exact q
        · rw [List.mem_singleton.1 q]; exact hmem
      · rw [preM_snoc, readAt_dup A (preM pre) x.1 hmem]; exact hi.arr
    · have hfx : f x.1 = .slice none 0 0 := (hkn.1 _ hmem).trans (hf0 _ hxm)
      rw [hfx] at cg
      have hVX : Vol X v p D L G ps ho (A.readAt (preM pre)) F := ⟨hV.vol.keep (hi.out.block _ hV.vol.lt (fun q => q.elim hgv hF.v)), hi.arr, hV.laid.keep (hi.out.block _ hV.laid.lt (fun q => q.elim (fun e => by have h9 : 2 < 3 := (by decide); omega) hF.g)), hV.tab.keep (hi.out.block _ hV.tab.lt (fun q => q.elim (fun e => by have h9 : 1 < 3 := (by decide); omega) hF.t)), Nat.le_trans hV.room hi.out.size⟩
      have HI := hide (And.intro hi (And.intro hkn (And.intro hfr hVX)))
      clear hi hkn hfr hVX
      gi_wp2
      rename_i hKK
      refine hKK _ _ ?_
      clear hKK
      simp only [Act.put, List.setIfInBounds_toArray, List.set_cons_succ, List.set_cons_zero]
      gi_wp2
      obtain ⟨hi, hkn, hfr, hVX⟩ := HI.out
      refine fetch_region4 hVX hF (hf.readAt _) x.1 hxn hb hw (hl _ hxm) (hbad _ hxm) hi.b2 hi.rd hnx hrF (R x.1) (hR _ hxm) (hblk _ hxm) (by kernel_rfl) rfl rfl rfl ?_
      intro w2 hA2 hO2
      rw [readAt_snoc A (preM pre) x.1 hmem] at hA2
      have hsz : ∀ k, w.heap.size ≤ k → k < X.heap.size → w2.heap[k]? = X.heap[k]? := fun k hk hkX => hO2.block k hkX (fun q => by have := hFl k q; omega)
      have hts := ta_shard
      have hl44 : (R x.1).length = 44 := (hR _ hxm).1
      have HA2 := hide hA2
      have HO2 := hide (And.intro hO2 hsz)
      clear hi hkn hfr hVX hA2 hO2 hsz c0 c1 cs c3 c4 cg c2
      rename_i hK
      refine hK _ _ ?_
      clear hK
      simp only [Act.putFrom, Act.put, List.setIfInBounds_toArray, List.set_cons_succ, List.set_cons_zero, recV]
      gi_wp2_with (show wpListIn _ _ _ _ _ ({ dst := none, op := Op.store 212 (.tmp 7) (.tmp 46), type := _, pos := _, after := _, guard := _ } :: _) _ _; refine in_shard_new (w := w2) (l := R x.1) rfl (.tmp 7) (.tmp 46) rfl (by rfl) (by rfl) (by rfl) hl44 ?_)
      obtain ⟨hO2, hsz⟩ := HO2.out
      obtain ⟨hi, hkn, hfr, hVX⟩ := HI.out
      have h2z : X.heap.size ≤ w2.heap.size := hO2.size
      have hb23 : Below w2.heap.size w2 (w2.alloc (.cells (bts (R x.1)).toArray 212)) := (Below.refl _ w2).alloc (Nat.le_refl _) _
      have hq3 : (w2.alloc (.cells (bts (R x.1)).toArray 212)).heap[w2.heap.size]? = some (.cells (bts (R x.1)).toArray 212 (0, 0)) := blk_alloc_new _ _
      have hz3 : (w2.alloc (.cells (bts (R x.1)).toArray 212)).heap.size = w2.heap.size + 1 := by simp
      obtain ⟨w3, hw3⟩ : ∃ w3, w2.alloc (.cells (bts (R x.1)).toArray 212) = w3 := ⟨_, rfl⟩
      rw [hw3] at hb23 hq3 hz3 ⊢
      have hX3 : ∀ k, k < X.heap.size → ¬ F.has p A.n k → w3.heap[k]? = X.heap[k]? := fun k hk hnk => (hb23.block k (by omega)).trans (hO2.block k hk hnk)
      have hXl : ∀ k, w.heap.size ≤ k → k < X.heap.size → w3.heap[k]? = X.heap[k]? := fun k hk hkX => hX3 k hkX (fun q => by have := hFl k q; omega)
      have hrow3 : w3.rowIs g 166 N f := hfr.of_block (hX3 g hfr.lt hgF)
      refine fetch_region8 (show Boxed w3 w.heap.size 191 (.pointer (some ⟨r, 0, none⟩)) from (hXl _ (Nat.le_refl _) (by omega)).trans hi.b2) (hi.rd.keep (hX3 r hi.rd.lt hrF)) hrow3 x.1 hxN (by omega) hgr (by kernel_rfl) rfl rfl rfl rfl ?_
      intro w4 hw4
      have hw4b : ∀ k, k ≠ g → w4.heap[k]? = w3.heap[k]? := fun k hk => by rw [hw4]; exact blk_setCell_other _ _ _ _ hk
      have hz4 : w4.heap.size = w3.heap.size := by rw [hw4]; simp [World.setCell]
      have hrow4 := hrow3.set x.1 (.slice (some ⟨w2.heap.size, 0, none⟩) 44 44)
      have hrow4' : w4.rowIs g 166 N (fun i => if i = x.1 then .slice (some ⟨w2.heap.size, 0, none⟩) 44 44 else f i) := by rw [hw4]; exact hrow4
      have hX4 : ∀ k, w.heap.size ≤ k → k < X.heap.size → w4.heap[k]? = X.heap[k]? := fun k hk hkX => (hw4b k (by omega)).trans (hXl k hk hkX)
      have hO4 : Outside (fun k => k = g ∨ F.has p A.n k) w w4 := by
        have h3 : Outside (fun k => k = g ∨ F.has p A.n k) w w3 := (hi.out.trans (hO2.mono fun _ _ q => .inr q)).trans (Outside.of_all hb23 _)
        rw [hw4]
        exact (h3.trans (Outside.drew w3)).trans (Outside.setCell _ _ _ (.inl rfl))
      have hA4 : ArrAt w4 p (A.readAt (preM pre ++ [x.1])) F := HA2.out.keep fun k hk => by
        have := hFl k hk
        exact (hw4b k (fun e => hgF (by rw [← e]; exact hk))).trans (hb23.block k (by omega))
      have hkn4 : Kn w4 w.heap.size f0 (fun i => if i = x.1 then .slice (some ⟨w2.heap.size, 0, none⟩) 44 44 else f i) R (preM pre ++ [x.1]) := by
        have hk' := hkn.keep (w' := w4) (by omega) fun k o hk ho _ => (hX4 k hk (Array.getElem?_eq_some_iff.1 ho).1).trans ho
        refine ⟨fun i hi' => ?_, fun i hi' => ?_⟩
        · have h1 : i ≠ x.1 := fun e => hi' (by rw [e]; simp)
          show (if i = x.1 then _ else f i) = _
          rw [if_neg h1]
          exact hk'.1 i (fun q => hi' (List.mem_append_left _ q))
        · show ∃ bl, (if i = x.1 then _ else f i) = _ ∧ _
          by_cases e : i = x.1
          · rw [if_pos e, e]
            exact ⟨w2.heap.size, rfl, by omega, by omega, (hw4b _ (by omega)).trans hq3⟩
          · rw [if_neg e]
            rcases List.mem_append.1 hi' with q | q
            · exact hk'.2 i q
            · exact absurd (List.mem_singleton.1 q) e
      have H4 := hide (And.intro hrow4' (And.intro hX4 (And.intro hO4 (And.intro hA4 hkn4))))
      have hrd4 := hide (hi.rd.keep ((hw4b r hgr).trans (hX3 r hi.rd.lt hrF)))
      have hz4' : X.heap.size ≤ w4.heap.size := by omega
      clear hrow4 hrow4' hX4 hO4 hA4 hkn4 hw4b hw4 hrow3 hX3 hXl hb23 hq3 hi hkn hfr hVX hO2 hsz hw3 HA2 HO2
      rename_i hK
      refine hK _ _ ?_
      clear hK
      simp only [Act.putFrom, Act.put, List.setIfInBounds_toArray, List.set_cons_succ, List.set_cons_zero]
      gi_wp2
      obtain ⟨hrow4, hX4, hO4, hA4, hkn4⟩ := H4.out
      have hi := HI.out.1
      have hzi := hi.size
      refine ⟨⟨hz4', fun k o hk ho _ => (hX4 k (by omega) (Array.getElem?_eq_some_iff.1 ho).1).trans ho⟩, fun _ => hV.tab.keep (hO4.block _ hV.tab.lt (fun q => q.elim (fun e => by have h9 : 1 < 3 := (by decide); omega) hF.t)), ?_⟩
      exact ⟨(hX4 _ (Nat.le_refl _) (by omega)).trans hi.b2, hrd4.out, ⟨_, hrow4, by rw [preM_snoc]; exact hkn4⟩, by rw [preM_snoc]; exact hA4, hO4, by omega⟩
  case done =>
    rintro D' xs X hD' hxs hi hK
    have hDX := (Array.getElem?_eq_some_iff.1 hK).1
    have hxs' : preM xs = mems S := hxs
    obtain ⟨f, hfr, hkn⟩ := hi.row
    have hko : ∀ k, k < w.heap.size + 1 → (X.putObj D' (.deferred none)).heap[k]? = X.heap[k]? := fun k hk => World.putObj_heap_other (by omega)
    refine end_none Tryz.results111 rfl hK ⟨rfl, hi.rd.keep (hko _ (by omega)), ⟨f, hfr.of_block (hko _ (by omega)), ?_⟩, ?_, ?_⟩
    · rw [← hxs']
      refine hkn.keep (by simp [World.putObj]) fun k o hk ho hc => (World.putObj_heap_other (fun e => ?_)).trans ho
      rw [e, hK] at ho
      cases ho
      cases hc
    · rw [← hxs']
      exact hi.arr.keep fun k hk => hko k (by have := hFl k hk; omega)
    · exact hi.out.later (T := fun k => w.heap.size ≤ k) ⟨rfl, rfl, rfl, by simp [World.putObj], fun k hk1 hk2 => hko k (by omega)⟩ (fun k hk1 hk2 => by omega)
  case stop =>
    rintro D' cc pre X hD' hpre hx hK
    exact hx.elim
end Go.Proofs.YtogdeaaphdlchaaGreatDoor
/-
  know, Data: the first bytes of a stripe, where nothing is lost.
-/
namespace Go.Proofs.YtogdeaaphdlchaaGreatDoor
open Go.RowKit Go.Deep Gf

theorem and_zero64 (S : Nat) (hS : S < 65536) : bits .and .u64 (S : Int) 0 = 0 := by
  have := bits_and_u64_nat S 0 (by omega) (by decide)
  simpa using this
theorem or_zero64 : bits .or .u64 0 0 = 0 := by decide
def KwPost (w : World) (r v b g N p : Nat) (A : Arr) (F : Foot) (f0 : Nat → Value) (R : Nat → List Nat) (S : Nat) (w' : World) : Prop := RdAt w' r v b g N 0 0 ∧ (∃ f, w'.rowIs g 166 N f ∧ Kn w' w.heap.size f0 f R (mems S)) ∧ ArrAt w' p (A.readAt (mems S)) F ∧ Outside (fun k => k = g ∨ F.has p A.n k) w w'
def KwR (w wr : World) : Prop := wr = w
set_option maxRecDepth 100000 in
set_option maxHeartbeats 4000000 in
theorem know_ok {w : World} {r v p D L G ps ho b g N : Nat} {A : Arr} {F : Foot} {f0 : Nat → Value} (hV : Vol w v p D L G ps ho A F) (hF : Free F p A.n v) (hf : A.fit) (hr : RdAt w r v b g N 0 0) (hrow : w.rowIs g 166 N f0) (S : Nat) (hS : S < 65536) (hSn : ∀ i, i ∈ mems S → i < N ∧ i < A.n) (hb : b < A.nb) (hw : A.wait ≠ 0)
    (hl : ∀ i, i ∈ mems S → A.lost i = false) (hbad : ∀ i, i ∈ mems S → A.bad i b = false) (hf0 : ∀ i, i ∈ mems S → f0 i = .slice none 0 0) (R : Nat → List Nat) (hR : ∀ i, i ∈ mems S → (Rec.shard (R i)).ok) (hblk : ∀ i, i ∈ mems S → A.blk i b = (Rec.shard (R i)).blk) (hgF : ¬ F.has p A.n g) (hrF : ¬ F.has p A.n r) (hgr : r ≠ g) (hgv : v ≠ g) (hgK : 3 ≤ g) :
    Calls Tryz.prog 98 #[.pointer (some ⟨r, 0, none⟩), .int .u64 S] w fun e w' => e = .returned .nilIface ∧ KwPost w r v b g N p A F f0 R S w' := by
  have hfe := fetch_ok hV hF hf hr hrow S hS hSn hb hw hl hbad hf0 R hR hblk hgF hrF hgr hgv hgK
  have han := and_zero64 S hS
  have hor := or_zero64
  go_enter Tryz.func98, Tryz.ntmps98
  go_wp2_with fail
  go_loopw [5] (fun _ wr => KwR w wr) (fun _ _ => 0)
  case atStart => exact rfl
  case round =>
    obtain rfl : w = wr := (show wr = w from hrel).symm
    go_wp2_with fail
    refine hfe.mono ?_
    rintro e w1 ⟨rfl, hpost⟩
    obtain ⟨_, _, _, d3, d4⟩ := hpost.1.cells
    have H := hide hpost
    clear hpost hfe
    go_wp2_with fail
    go_quiet (fail)
    go_wp2
    go_ret
    obtain ⟨h1, ⟨f, h2, h3⟩, h4, h5⟩ := H.out
    exact ⟨rfl, h1, ⟨f, h2, h3⟩, h4.keep fun _ _ => rfl, ⟨h5.os, h5.tape, h5.output, h5.size, h5.block⟩⟩
theorem mems_first {k : Nat} (h : k ≤ 16) : mems (2 ^ k - 1) = List.range k := mems_all h
theorem flat_len (R : Nat → List Nat) : ∀ m, (∀ i, i < m → (R i).length = 44) → ((List.range m).map R).flatten.length = 44 * m
  | 0, _ => rfl
  | m + 1, h => by
    rw [List.range_succ, List.map_append, List.flatten_append, List.length_append, flat_len R m fun i hi => h i (by omega)]
    simp [h m (by omega)]
    omega
theorem own_bs {w : World} {base M size : Nat} {u : Value} {fl : List Nat} (h : w.ownsRow base 5 1 u M (bts fl)) (hM : fl.length = M) (hx : ∀ x ∈ fl, x < 256) (hs : size ≤ M) (hM' : M ≤ 1000000) : ∃ ao cp, u = .slice ao M cp ∧ M ≤ cp ∧ cp ≤ 9223372036854775807 ∧ (ao = none → M = 0 ∧ cp = 0) ∧ (∀ a, ao = some a → base ≤ a.block) ∧ Bs w (.slice ao size size) (fl.take size) := by
  have hl : (fl.take size).length = size := by rw [List.length_take]; omega
  rcases h.2 with ⟨hu, hM0⟩ | ⟨gg, cp, cur, hu, hg1, hg2, hg3, hg4, hg5, hg6⟩
  · have hs0 : size = 0 := by omega
    subst hs0
    exact ⟨none, 0, by rw [hu, hM0], by omega, by omega, fun _ => ⟨hM0, rfl⟩, fun a h => (by cases h), by rw [List.take_zero]; exact ⟨none, 0, rfl, Nat.le_refl _, by decide, fun _ h => (by cases h), fun h => absurd rfl h⟩⟩
  · have hcp : cp ≤ 9223372036854775807 := by unfold maxLen at hg4; omega
    refine ⟨some ⟨gg, 0, none⟩, cp, hu, hg3, hcp, fun h => (by cases h), fun a h => (by cases h; exact hg1), some ⟨gg, 0, none⟩, size, by rw [hl], by rw [hl]; exact Nat.le_refl _, ?_, fun x hx' => hx x (List.mem_of_mem_take hx'), fun _ => ⟨gg, 0, rfl, fun k hk => ?_⟩⟩
    · rw [hl]; omega
    · rw [hl] at hk
      have hkf : k < fl.length := by omega
      have q : cur[k]? = some (.int .u8 ((fl[k] : Nat) : Int)) := by
        have h7 := congrArg (fun l => l[k]?) hg6
        simp only [Nat.mul_one, bts] at h7
        rw [List.getElem?_take_of_lt (by omega), Array.getElem?_toList, List.getElem?_map, List.getElem?_eq_getElem hkf] at h7
        exact h7
      have e9 : (fl.take size).getD k 0 = fl[k] := by simp [List.getD_eq_getElem?_getD, hk, hkf]
      rw [e9]
      simp [World.cell?, hg2, q]
/-- what Data leaves -/
structure DtPost (w : World) (r v b g N p : Nat) (A : Arr) (F : Foot) (l : List Nat) (m : Nat) (u : Value) (w' : World) : Prop where
  rd : RdAt w' r v b g N 0 0
  row : ∃ f, w'.rowIs g 166 N f
  arr : ArrAt w' p (A.readAt (List.range m)) F
  out : Outside (fun k => k = r ∨ k = g ∨ F.has p A.n k) w w'
  bytes : Bs w' u l
  fresh : ∀ k, u.ownBlock = some k → w.heap.size ≤ k
  cap : ∃ ao n, u = .slice ao n n
set_option maxRecDepth 100000 in
set_option maxHeartbeats 4000000 in
theorem data_ok {w : World} {r v p D L G ps b0 b g N gone sp : Nat} {A : Arr} {F : Foot} {f0 : Nat → Value} (hV : Vol w v p D L G ps 0 A F) (hF : Free F p A.n v) (hf : A.fit) (hr : RdAt w r v b0 g N gone sp) (hrow : w.rowIs g 166 N f0) (hN : 0 < N) (hb : b < A.nb) (hw : A.wait ≠ 0) (size : Nat)
    (m : Nat) (hm : m = (size + 43) / 44) (hmN : m ≤ N) (hmA : m ≤ A.n) (hm16 : m ≤ 16) (hl : ∀ i, i < m → A.lost i = false) (hbad : ∀ i, i < m → A.bad i b = false) (R : Nat → List Nat) (hR : ∀ i, i < m → (Rec.shard (R i)).ok) (hblk : ∀ i, i < m → A.blk i b = (Rec.shard (R i)).blk) (hgF : ¬ F.has p A.n g) (hrF : ¬ F.has p A.n r) (hgr : r ≠ g) (hgv : v ≠ g) (hrv : v ≠ r) (hgK : 3 ≤ g) (hrK : 3 ≤ r) :
    Calls Tryz.prog 80 #[.pointer (some ⟨r, 0, none⟩), .int .i64 b, .int .i64 size] w fun e w' => ∃ u, e = .returned (.tuple #[u, .nilIface]) ∧ DtPost w r v b g N p A F (((List.range m).map R).flatten.take size) m u w' := by
  have hsz : size ≤ 704 := by omega
  have hmem : mems (2 ^ m - 1) = List.range m := mems_first hm16
  have hS : 2 ^ m - 1 < 65536 := by
    have : 2 ^ m ≤ 2 ^ 16 := Nat.pow_le_pow_right (by decide) hm16
    omega
  obtain ⟨S, hSe⟩ : ∃ S, 2 ^ m - 1 = S := ⟨_, rfl⟩
  rw [hSe] at hmem hS
  have htn := turn_ok hr hV.vol hrow hN (fun e => hgr e.symm) hgv b
  have hFl : ∀ k, F.has p A.n k → k < w.heap.size := fun k hk => hV.arr.has_lt hk
  have hrl := hr.lt
  have hgl := hrow.lt
  have H0 := hide (And.intro hV hblk)
  have e1 : ((size : Nat) : Int) + 44 - 1 = ((size + 43 : Nat) : Int) := by omega
  have e2 : ((size + 43 : Nat) : Int) / 44 = (m : Int) := by omega
  clear hr hrow hV hblk
  go_enter Tryz.func80, Tryz.ntmps80
  go_wp2_with fail
  refine htn.mono ?_
  rintro e w1 ⟨rfl, hr1, hrow1, hO1⟩
  have hV1 : Vol w1 v p D L G ps 0 A F := by
    have hV := H0.out.1
    refine ⟨hV.vol.keep (hO1.block _ hV.vol.lt (fun q => q.elim hrv hgv)), hV.arr.keep fun k hk => hO1.block k (hFl k hk) (fun q => q.elim (fun e => hrF (by rw [← e]; exact hk)) (fun e => hgF (by rw [← e]; exact hk))), hV.laid.keep (hO1.block _ hV.laid.lt (fun q => ?_)), hV.tab.keep (hO1.block _ hV.tab.lt (fun q => ?_)), Nat.le_trans hV.room hO1.size⟩
    · have h9 : 2 < 3 := by decide
      omega
    · have h9 : 1 < 3 := by decide
      omega
  have hkw := know_ok hV1 hF hf hr1 hrow1 S hS (fun i hi => by rw [hmem, List.mem_range] at hi; omega) hb hw (fun i hi => hl i (by rw [hmem, List.mem_range] at hi; exact hi)) (fun i hi => hbad i (by rw [hmem, List.mem_range] at hi; exact hi)) (fun _ _ => rfl) R (fun i hi => hR i (by rw [hmem, List.mem_range] at hi; exact hi)) (fun i hi => H0.out.2 i (by rw [hmem, List.mem_range] at hi; exact hi)) hgF hrF hgr hgv hgK
  have H1 := hide (And.intro hkw (And.intro hO1 hV1))
  clear htn hr1 hrow1 hO1 hV1 hkw
  go_wp2_with fail
  rw [show ((size : Int) + 43) / 44 = (m : Int) by omega]
  refine (first_any m hm16 w1).mono ?_
  rw [hSe]
  rintro e w2 ⟨rfl, rfl⟩
  clear e1 e2
  go_wp2_with fail
  refine H1.out.1.mono ?_
  rintro e w3 ⟨rfl, hr3, ⟨f, hrow3, hkn⟩, hA3, hO3⟩
  rw [hmem] at hkn hA3
  obtain ⟨_, _, d2, _, _⟩ := hr3.cells
  have hflen : ((List.range m).map R).length = m := by simp
  have hrws : Rws w3 0 g ((List.range m).map R) := by
    refine ⟨Nat.zero_le _, hrow3.lt, fun i hi => ?_⟩
    rw [hflen] at hi
    obtain ⟨bl, q1, _, q3, q4⟩ := hkn.2 i (List.mem_range.2 hi)
    have cg := hrow3.cell (i := i) (by omega)
    rw [q1] at cg
    have hok := hR i hi
    have e : ((List.range m).map R)[i]'(by rw [hflen]; exact hi) = R i := by simp
    rw [e]
    exact ⟨bl, 0, 44, cg, Nat.zero_le _, q3, fun j u hj => by simp [World.cell?, q4]; simpa using hj, hok.1, hok.2⟩
  have hcc := concat_ok (c := N) hrws (by rw [hflen]; omega)
  rw [hflen] at hcc
  have hO13 : Outside (fun k => k = r ∨ k = g ∨ F.has p A.n k) w w3 := (H1.out.2.1.mono fun _ _ q => q.elim .inl (fun e => .inr (.inl e))).trans (hO3.mono fun _ _ q => .inr q)
  have H3 := hide (And.intro hr3 (And.intro hrow3 (And.intro hA3 (And.intro hO13 hcc))))
  clear hr3 hrow3 hkn hA3 hO3 hcc hO13 hrws hflen
  go_wp2_with fail
  rw [show (size + 43) / 44 = m from hm.symm]
  refine H3.out.2.2.2.2.mono ?_
  rintro e w4 ⟨u, rfl, hown, hb4⟩
  have hfl : ((List.range m).map R).flatten.length = 44 * m := flat_len R m (fun i hi => (hR i hi).1)
  have hfx : ∀ x ∈ ((List.range m).map R).flatten, x < 256 := fun x hx => by
    obtain ⟨l, hl1, hl2⟩ := List.mem_flatten.1 hx
    obtain ⟨i, hi1, rfl⟩ := List.mem_map.1 hl1
    exact (hR i (List.mem_range.1 hi1)).2 x hl2
  have hsm : size ≤ 44 * m := by omega
  obtain ⟨ao, cp, rfl, hcp1, hcp2, hcp3, hcp4, hbs⟩ := own_bs hown hfl hfx hsm (by omega)
  have H4 := hide (And.intro hb4 (And.intro hbs hcp4))
  obtain ⟨M, hM⟩ : ∃ M, 44 * m = M := ⟨_, rfl⟩
  rw [hM] at hsm hcp1 ⊢
  have hszc : size ≤ cp := Nat.le_trans hsm hcp1
  have hM7 : M ≤ 704 := by omega
  clear hb4 hbs hcp4 hown hfl hfx hM hm hmN hmA d2 H0 hR hl hbad hmem hSe hS H1
  go_wp2
  go_ret2
  obtain ⟨hr3, hrow3, hA3, hO13, _⟩ := H3.out
  obtain ⟨hb4, hbs, hcp4⟩ := H4.out
  refine ⟨_, rfl, hr3.keep (hb4.block _ hr3.lt), ⟨_, hrow3.of_block (hb4.block _ hrow3.lt)⟩, hA3.below hb4 (Nat.le_refl _), hO13.trans (Outside.of_all hb4 _), hbs, fun k hk => ?_, ⟨_, _, rfl⟩⟩
  cases ao with
  | none => simp [Value.ownBlock] at hk
  | some a =>
    simp [Value.ownBlock] at hk
    have h1 := hcp4 a rfl
    have h2 := hO13.size
    omega
end Go.Proofs.YtogdeaaphdlchaaGreatDoor
/-
  Tables of products, and rows that are added to rows.
-/
namespace Go.Proofs.YtogdeaaphdlchaaGreatDoor
open Go.RowKit Go.Deep Gf

/-- what a table holds -/
def tabN (c j : Nat) : Nat := if j < 16 then gm c j else gm c ((j - 16) * 16)
def tv (f : Nat → Nat) (j : Nat) : Value := .int .u8 ((f j : Nat) : Int)
theorem mul_eq {x y : Int} (a b : Nat) (hx : x = (a : Int)) (hy : y = (b : Int)) (ha : a < 256) (hb : b < 256) (w : World) :
    Calls Tryz.prog 90 #[.int .u8 x, .int .u8 y] w fun e w' => e = .returned (.int .u8 ((gm a b : Nat) : Int)) ∧ w' = w := by
  subst hx hy; exact mul_any a b ha hb w
/-- the products with the first n numbers -/
def mulTo (c n j : Nat) : Nat := if j < n then gm c j else 0
/-- the powers of 2 that the loop goes through -/
def pw2 (q : Nat) : Prop := q = 1 ∨ q = 2 ∨ q = 4 ∨ q = 8 ∨ q = 16
def MulR (w : World) (B c : Nat) (i d : Value) (wr : World) : Prop :=
  ∃ q : Nat, pw2 q ∧ i = .int .i64 q ∧ d = .int .u8 ((gm c q : Nat) : Int) ∧ wr.rowIs (B + 1) 206 16 (tv (mulTo c q)) ∧ wr.rowIs B 206 16 (fun _ => .int .u8 0) ∧ Below B w wr
def MulR2 (w : World) (B c q : Nat) (i : Value) (wr : World) : Prop :=
  ∃ k : Nat, k ≤ q ∧ i = .int .i64 k ∧ wr.rowIs (B + 1) 206 16 (tv (mulTo c (q + k))) ∧ wr.rowIs B 206 16 (fun _ => .int .u8 0) ∧ Below B w wr
theorem zero16 (w : World) : (w.alloc (.cells (Array.replicate 16 (.int .u8 0)) 206)).rowIs w.heap.size 206 16 (fun _ => .int .u8 0) := by
  have h := World.rowIs_alloc w (Array.replicate 16 (.int .u8 0)) 206 (fun _ => .int .u8 0) (fun i hi => by simp at hi; simp [hi])
  simpa using h
theorem zero32 (w : World) : (w.alloc (.cells (Array.replicate 32 (.int .u8 0)) 221)).rowIs w.heap.size 221 32 (fun _ => .int .u8 0) := by
  have h := World.rowIs_alloc w (Array.replicate 32 (.int .u8 0)) 221 (fun _ => .int .u8 0) (fun i hi => by simp at hi; simp [hi])
  simpa using h
theorem xor_pow1 : ∀ i, i < 1 → i ^^^ 1 = 1 + i := by decide
theorem xor_pow2 : ∀ i, i < 2 → i ^^^ 2 = 2 + i := by decide
theorem xor_pow4 : ∀ i, i < 4 → i ^^^ 4 = 4 + i := by decide
theorem xor_pow8 : ∀ i, i < 8 → i ^^^ 8 = 8 + i := by decide
theorem xor_pow {q i : Nat} (hq : pw2 q) (h16 : q < 16) (h : i < q) : i ^^^ q = q + i := by
  rcases hq with rfl | rfl | rfl | rfl | rfl
  · exact xor_pow1 i h
  · exact xor_pow2 i h
  · exact xor_pow4 i h
  · exact xor_pow8 i h
  · omega
theorem tx_gm1 : ∀ c, c < 256 → tx (gm c 1) = gm c 2 := by decide +kernel
theorem tx_gm2 : ∀ c, c < 256 → tx (gm c 2) = gm c 4 := by decide +kernel
theorem tx_gm4 : ∀ c, c < 256 → tx (gm c 4) = gm c 8 := by decide +kernel
theorem tx_gm8 : ∀ c, c < 256 → tx (gm c 8) = gm c 16 := by decide +kernel
theorem tx_gm {q c : Nat} (hq : pw2 q) (h16 : q < 16) (hc : c < 256) : tx (gm c q) = gm c (q * 2) := by
  rcases hq with rfl | rfl | rfl | rfl | rfl
  · exact tx_gm1 c hc
  · exact tx_gm2 c hc
  · exact tx_gm4 c hc
  · exact tx_gm8 c hc
  · omega
theorem pw2_next {q : Nat} (hq : pw2 q) (h16 : q < 16) : pw2 (q * 2) := by unfold pw2 at *; omega
theorem mulTo_step {c q k : Nat} (hq : pw2 q) (h16 : q < 16) (hk : k < q) (j : Nat) : tv (mulTo c (q + (k + 1))) j = if j = q + k then .int .u8 ((mulTo c (q + k) k ^^^ gm c q : Nat) : Int) else tv (mulTo c (q + k)) j := by
  unfold tv mulTo
  by_cases h1 : j = q + k
  · rw [if_pos h1, if_pos (by omega), if_pos (by omega), ← gm_add, xor_pow hq h16 hk, h1]
  · rw [if_neg h1]
    by_cases h2 : j < q + k
    · rw [if_pos h2, if_pos (by omega)]
    · rw [if_neg h2, if_neg (by omega)]
theorem one_cells {cs : Array Value} {f : Nat → Nat} {n : Nat} (hs : cs.size = n) (h : ∀ j, j < n → cs[j]? = some (tv f j)) : cs.all (fun v => v.oneCell') = true := by
  rw [Array.all_eq_true]
  intro i hi
  have := h i (by omega)
  rw [Array.getElem?_eq_getElem hi] at this
  simp at this
  rw [this]; rfl
theorem timesX_eq {x : Int} (a : Nat) (hx : x = (a : Int)) (h : a < 256) (w : World) : Calls Tryz.prog 106 #[.int .u8 x] w fun e w' => e = .returned (.int .u8 (tx a : Int)) ∧ w' = w := by
  subst hx; exact timesX_any a h w
theorem mulTo_lt (c n j : Nat) (hc : c < 256) : mulTo c n j < 256 := by
  unfold mulTo; split
  · exact gm_lt _ hc
  · decide
theorem Tryz.infoArr16 : (Tryz.prog.info? 206).map (fun i => i.size) = some 16 := by kernel_rfl
set_option maxRecDepth 100000 in
set_option maxHeartbeats 4000000 in
theorem multiples_any (c : Nat) (hc : c < 256) (w : World) :
    Calls Tryz.prog 117 #[.int .u8 c] w fun e w' => ∃ cs : Array Value, e = .returned (.agg cs) ∧ cs.size = 16 ∧ (∀ j, j < 16 → cs[j]? = some (tv (mulTo c 16) j)) ∧ Below w.heap.size w w' := by
  go_enter Tryz.func117, Tryz.ntmps117
  go_wp2
  go_loopw [4, 0] (fun i d wr => MulR w w.heap.size c i d wr) (fun i _ _ => 16 - (intOf i).toNat)
  case atStart =>
    refine ⟨1, .inl rfl, rfl, by rw [gm_one c hc], ?_, ?_, ?_⟩
    · have h := zero16 (w.alloc (.cells (Array.replicate 16 (.int .u8 0)) 206))
      rw [nblk_alloc] at h
      refine h.congr fun j hj => ?_
      unfold tv mulTo
      by_cases e : j < 1
      · rw [if_pos e, show j = 0 by omega, gm_zero]; rfl
      · rw [if_neg e]; rfl
    · exact (zero16 w).alloc _
    · exact ((Below.refl _ _).alloc (Nat.le_refl _) _).alloc (by rw [nblk_alloc]; omega) _
  case round =>
    obtain ⟨q, hq, rfl, rfl, hR, hZ, hb⟩ := hrel
    have hq16 : q ≤ 16 := by unfold pw2 at hq; omega
    have hgq : gm c q < 256 := gm_lt _ hc
    by_cases hlt : q < 16
    · have hq8 : q ≤ 8 := by unfold pw2 at hq; omega
      have HQ := hide hq
      have H0 := hide (show MulR2 w w.heap.size c q (.int .i64 (0 : Nat)) wr from ⟨0, Nat.zero_le _, rfl, hR, hZ, hb⟩)
      clear hR hZ hb hq
      have hqi : (q : Int) < 16 := by omega
      rename World => wo
      go_wp2
      go_loopw [11] (fun i wr => MulR2 w w.heap.size c q i wr) (fun i _ => q - (intOf i).toNat)
      case atStart => exact H0.out
      case round =>
        obtain ⟨k, hk, rfl, hR, hZ, hb⟩ := hrel
        by_cases hkq : k < q
        · have c1 := hR.cell (i := k) (by omega)
          have c2 := hR.cell (i := q + k) (by omega)
          have f2 := hR.frozen (q + k)
          have hml := mulTo_lt c (q + k) k hc
          have hxx := u8_xor _ _ hml hgq
          have hR2 := (hR.set (q + k) (.int .u8 ((mulTo c (q + k) k ^^^ gm c q : Nat) : Int))).congr (fun j hj => (mulTo_step HQ.out hlt hkq j).symm)
          have hZ2 := hZ.setOther (a := ⟨w.heap.size + 1, q + k, none⟩) (by simp) (.int .u8 ((mulTo c (q + k) k ^^^ gm c q : Nat) : Int))
          have hb2 := hb.setCell (p := ⟨w.heap.size + 1, q + k, none⟩) (by simp) (.int .u8 ((mulTo c (q + k) k ^^^ gm c q : Nat) : Int))
          have HH := hide (And.intro hR2 (And.intro hZ2 hb2))
          clear hR2 hZ2 hb2 hR hZ hb
          unfold tv at c1 c2
          have hki : (k : Int) < q := by omega
          have hki2 : (k : Int) < 16 := by omega
          have hqk : (q : Int) + (k : Int) < 16 := by omega
          have hwr : IntKind.i64.wrap ((q : Int) + (k : Int)) = ((q + k : Nat) : Int) := by rw [IntKind.wrap_i64]; omega
          have hwk : wrap64 ((q : Int) + (k : Int)) = ((q + k : Nat) : Int) := by unfold wrap64; omega
          go_wp2
          go_roundw
          case rel => exact ⟨k + 1, by omega, by go_num, HH.out.1, HH.out.2.1, HH.out.2.2⟩
          case measure => simp [intOf]; omega
        · have hkk : k = q := by omega
          have HR := hide (And.intro hR (And.intro hZ hb))
          clear hR hZ hb
          have hki : ¬ ((k : Int) < q) := by omega
          go_wp2_with fail
          refine (timesX_eq (gm c q) rfl hgq _).mono ?_
          rintro e w' ⟨rfl, rfl⟩
          go_wp2
          go_roundw
          case rel => exact ⟨q * 2, pw2_next HQ.out hlt, by go_num, by rw [tx_gm HQ.out hlt hc], by have := HR.out.1; rwa [hkk, show q + q = q * 2 by omega] at this, HR.out.2.1, HR.out.2.2⟩
          case measure => have hh := HQ.out; unfold pw2 at hh; simp only [intOf]; omega
    · have hq16 : q = 16 := by omega
      subst hq16
      obtain ⟨cs, hcs, hsz, hget⟩ := hR
      obtain ⟨zs, hzs, hzz, _⟩ := hZ
      have h1 := one_cells hsz hget
      have HG := hide hget
      have hi : (Tryz.prog.info? 206).map (fun i => i.size) = some cs.size := by rw [Tryz.infoArr16, hsz]
      have HI := hide hi
      have HC := hide hcs
      have HZ := hide hzs
      clear hget hi hcs hzs
      go_wp2_with (first
        | refine wpList_load_row rfl 206 (.tmp 3) rfl (w.heap.size + 1) rfl 206 cs (0, 0) _ HC.out Tryz.underlying206 rfl HI.out ?_
        | refine wpList_store_row rfl 206 (.tmp 2) (.tmp 26) rfl w.heap.size cs rfl rfl 206 zs HZ.out HI.out (by omega) h1 ?_)
      exact bodyPost_ret (v := .agg cs) (results_cell_row Tryz.results117 _ _ w.heap.size 206 cs (0, 0) _ rfl (setRow_heap _ _ zs cs _ _ HZ.out) Tryz.underlying206 rfl HI.out) rfl ⟨cs, rfl, hsz, HG.out, below_setRow hb (Nat.le_refl _) cs⟩

theorem Tryz.infoTable : (Tryz.prog.info? 221).map (fun i => i.size) = some 32 := by kernel_rfl
theorem mulTo_tab (c j : Nat) (hc : c < 256) (hj : j < 32) : (if j < 16 then mulTo c 16 j else mulTo (gm c 16) 16 (j - 16)) = tabN c j := by
  unfold mulTo tabN
  by_cases h : j < 16
  · rw [if_pos h, if_pos h, if_pos h]
  · rw [if_neg h, if_neg h, if_pos (by omega), gm_assoc hc (by decide) (by omega)]
    congr 1
    have : ∀ x, x < 16 → gm 16 x = x * 16 := by decide +kernel
    exact this _ (by omega)
/-- the cells of a table -/
def tabCs (c : Nat) : Array Value := ((List.range 32).map (fun j => Value.int .u8 ((if j < 16 then mulTo c 16 j else mulTo (gm c 16) 16 (j - 16) : Nat) : Int))).toArray
theorem tabCs_size (c : Nat) : (tabCs c).size = 32 := by unfold tabCs; rw [List.size_toArray, List.length_map, List.length_range]
theorem tabCs_get (c j : Nat) (hc : c < 256) (hj : j < 32) : (tabCs c)[j]? = some (tv (tabN c) j) := by
  unfold tabCs tv
  simp only [List.getElem?_toArray, List.getElem?_map, List.getElem?_range hj, Option.map_some, mulTo_tab c j hc hj]
theorem tabCs_info (c : Nat) : (Tryz.prog.info? 221).map (fun i => i.size) = some (tabCs c).size := by rw [tabCs_size, Tryz.infoTable]
theorem arr16_eq {cs : Array Value} {f : Nat → Nat} (hs : cs.size = 16) (h : ∀ j, j < 16 → cs[j]? = some (tv f j)) :
    cs = #[tv f 0, tv f 1, tv f 2, tv f 3, tv f 4, tv f 5, tv f 6, tv f 7, tv f 8, tv f 9, tv f 10, tv f 11, tv f 12, tv f 13, tv f 14, tv f 15] := by
  have e : cs = ((List.range 16).map (tv f)).toArray := by
    refine Array.ext (by simp [hs]) fun i h1 h2 => ?_
    have := h i (by omega)
    rw [Array.getElem?_eq_getElem h1] at this
    simp at this ⊢
    exact this
  exact e
set_option maxRecDepth 100000 in
set_option maxHeartbeats 4000000 in
theorem tableOf_any (c : Nat) (hc : c < 256) (w : World) :
    Calls Tryz.prog 104 #[.int .u8 c] w fun e w' => ∃ cs : Array Value, e = .returned (.agg cs) ∧ cs.size = 32 ∧ (∀ j, j < 32 → cs[j]? = some (tv (tabN c) j)) ∧ Below w.heap.size w w' := by
  have hZ := zero32 w
  have hg : gm c 16 < 256 := gm_lt _ hc
  go_enter Tryz.func104, Tryz.ntmps104
  go_wp2_with fail
  refine (multiples_any c hc _).mono ?_
  rintro e w1 ⟨cs1, rfl, hs1, hg1, hb1⟩
  obtain rfl := arr16_eq hs1 hg1
  clear hs1 hg1
  simp only [tv]
  go_wp2_with fail
  refine (mul_eq c 16 rfl rfl hc (by decide) _).mono ?_
  rintro e w' ⟨rfl, rfl⟩
  go_wp2_with fail
  refine (multiples_any (gm c 16) hg _).mono ?_
  rintro e w2 ⟨cs2, rfl, hs2, hg2, hb2⟩
  obtain rfl := arr16_eq hs2 hg2
  clear hs2 hg2
  simp only [tv]
  obtain ⟨zs, hzs, hzz, _⟩ := hZ
  have hz2 : w2.heap[w.heap.size]? = some (.cells zs 221 (0, 0)) := (hb2.block _ (by have := hb1.size; rw [nblk_alloc] at this; omega)).trans ((hb1.block _ (by rw [nblk_alloc]; omega)).trans hzs)
  have HZ := hide hz2
  have HB : Hid (Below w.heap.size w w2) := hide ((((Below.refl _ w).alloc (Nat.le_refl _) _).trans (hb1.mono (by rw [nblk_alloc]; omega))).trans (hb2.mono (by have := hb1.size; rw [nblk_alloc] at this; omega)))
  clear hb1 hb2 hzs hz2
  have HI := hide (tabCs_info c)
  have HS : Hid (zs.size = (tabCs c).size) := hide (by rw [hzz, tabCs_size])
  have H1 := hide (one_cells (tabCs_size c) (fun j hj => tabCs_get c j hc hj))
  have HE : Hid (∀ j, j < 32 → (tabCs c)[j]? = some (tv (tabN c) j)) := hide (fun j hj => tabCs_get c j hc hj)
  have HZ2 := hide (tabCs_size c)
  obtain ⟨cs, hcs⟩ : ∃ cs, tabCs c = cs := ⟨_, rfl⟩
  rw [hcs] at HI HS H1 HE HZ2
  have HC := hide hcs
  clear hcs
  go_wp2_with (refine wpList_store_row rfl 221 (.tmp 2) (.tmp 8) rfl w.heap.size cs rfl (by rw [← HC.out]; rfl) 221 zs HZ.out HI.out HS.out H1.out ?_)
  refine bodyPost_ret (v := .agg cs) (results_cell_row Tryz.results104 _ _ w.heap.size 221 cs (0, 0) _ rfl (setRow_heap _ _ zs cs _ _ HZ.out) Tryz.underlying221 rfl HI.out) rfl ?_
  exact ⟨cs, rfl, HZ2.out, HE.out, below_setRow HB.out (Nat.le_refl _) _⟩

/-- a table in memory -/
def TableAt (w : World) (t c : Nat) : Prop := ∀ j, j < 32 → w.cell? ⟨t, j, none⟩ = some (tv (tabN c) j)
theorem split16 : ∀ b, b < 256 → b = (b % 16) ^^^ (b / 16 * 16) := by decide +kernel
theorem times_eq (c b : Nat) (hb : b < 256) : tabN c (b % 16) ^^^ tabN c (16 + b / 16) = gm c b := by
  unfold tabN
  rw [if_pos (by omega), if_neg (by omega), Nat.add_sub_cancel_left, ← gm_add, ← split16 b hb]
theorem tabN_lt (c j : Nat) (hc : c < 256) : tabN c j < 256 := by
  unfold tabN; split <;> exact gm_lt _ hc
theorem and15 (b : Nat) (hb : b < 256) : bits .and .u8 (b : Int) 15 = ((b % 16 : Nat) : Int) := by
  rw [u8_and15 _ (by omega) (by omega)]; rfl
set_option maxRecDepth 100000 in
set_option maxHeartbeats 4000000 in
theorem times_any (t c b : Nat) (hc : c < 256) (hb : b < 256) (w : World) (ht : TableAt w t c) :
    Calls Tryz.prog 105 #[.pointer (some ⟨t, 0, none⟩), .int .u8 b] w fun e w' => e = .returned (.int .u8 ((gm c b : Nat) : Int)) ∧ ∃ m, w' = w.drewN m := by
  have c1 := ht (b % 16) (by omega)
  have c2 := ht (16 + b / 16) (by omega)
  have x1 := tabN_lt c (b % 16) hc
  have x2 := tabN_lt c (16 + b / 16) hc
  have hfin := times_eq c b hb
  have hand := and15 b hb
  have hxx := u8_xor _ _ x1 x2
  unfold tv at c1 c2
  rw [hfin] at hxx
  have hb' : (b : Int) < 256 := by omega
  clear ht hfin
  go_enter Tryz.func105, Tryz.ntmps105
  go_wp2
  go_quiet (fail)
  go_wp2
  go_ret
  exact ⟨rfl, _, rfl⟩
end Go.Proofs.YtogdeaaphdlchaaGreatDoor
