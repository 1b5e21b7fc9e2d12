import Derived.Test.YtbgiechfhfeaeaaDoorCodeMath
import Derived.Test.YtbgiechfhfeaeaaDoorPart08
import Derived.Test.YtbgiechfhfeaeaaDoorSearchMath
/-
  Programs that repair, in plain numbers: what can be told, by how few; one shard of a group. Nothing of the program is imported here.
-/
namespace Go.Proofs.YtbgiechfhfeaeaaDoor.Gf

theorem nodup_inj {L : List Nat} (h : L.Nodup) {a b : Nat} (ha : a < L.length) (hb : b < L.length) (e : L[a] = L[b]) : a = b := by
  have hp := List.pairwise_iff_getElem.1 h
  by_cases h1 : a < b
  · exact absurd e (hp a b ha hb h1)
  · by_cases h2 : b < a
    · exact absurd e.symm (hp b a hb ha h2)
    · omega
/-- a code: the rows of n = D + P shards, those of the data first -/
structure Code (M : Nat → Nat → Nat) (D P : Nat) : Prop where
  byt : ∀ i, byteV (M i)
  unit : ∀ i, i < D → ∀ j, M i j = if j = i then 1 else 0
  nought : ∀ i j, D ≤ j → M i j = 0
theorem Code.told {M : Nat → Nat → Nat} {D P : Nat} (h : Code M D P) (L : List Nat) :
    (∃ C, tells (ck0 M D P) L = some C ∧ ToldBy (ck0 M D P) (Dual M D (D + P)) L C) ∨ (tells (ck0 M D P) L = none ∧ ∃ pre i, (pre ++ [i]) <+: L ∧ ∀ v, Span (From (ck0 M D P) 0) v → (∀ j ∈ pre, v j = 0) → v i = 0) := by
  have := ToldBy.of (dual_lin M D (D + P) h.byt) (C0 := ck0 M D P) rfl (ck0_byte h.byt) (fun k hk => ck0_dual h.byt h.unit k hk) L [] (ck0 M D P) (ToldBy.nil rfl (ck0_byte h.byt) (fun k hk => ck0_dual h.byt h.unit k hk)) rfl
  simpa using this
/-- if all lost shards are told, the others tell the data -/
theorem Code.full {M : Nat → Nat → Nat} {D P : Nat} (h : Code M D P) {L : List Nat} {C : Ck} (ht : ToldBy (ck0 M D P) (Dual M D (D + P)) L C) : Full (Sel M (D + P) (fun i => i ∉ L)) 0 D := by
  have hsel : ∀ r, Sel M (D + P) (fun i => i ∉ L) r → byteV r := by rintro r ⟨i, _, _, rfl⟩; exact h.byt i
  have hrow : ∀ i, i < D + P → Span (Sel M (D + P) (fun i => i ∉ L)) (M i) := by
    intro i hi
    by_cases hm : i ∈ L
    · obtain ⟨k, hk, rfl⟩ := List.getElem_of_mem hm
      have hkc : k < C.count := by have := ht.told; have := ht.le; omega
      refine span_of_dual h.byt h.nought hi (ht.all k hkc) ?_ ?_
      · rw [ht.one k hk k hk, if_pos rfl]
      · intro j _ hj hne hjL
        obtain ⟨k', hk', rfl⟩ := List.getElem_of_mem hjL
        rw [ht.one k hk k' hk'] at hne
        by_cases e : k = k'
        · subst e; exact hj rfl
        · rw [if_neg e] at hne; exact hne rfl
    · exact Span.mem (h.byt i) ⟨i, hi, hm, rfl⟩
  refine Full.units hsel (fun j hj => ?_)
  have e : M j = unitV j := by funext x; rw [h.unit j hj]; rfl
  rw [← e]; exact hrow j (by omega)
/-- if one cannot be told, they don't -/
theorem Code.not_full {M : Nat → Nat → Nat} {D P : Nat} (h : Code M D P) {L : List Nat} (hnd : L.Nodup) (hn : ∀ i ∈ L, i < D + P) (ht : ∃ pre i, (pre ++ [i]) <+: L ∧ ∀ v, Span (From (ck0 M D P) 0) v → (∀ j ∈ pre, v j = 0) → v i = 0) :
    ¬ Full (Sel M (D + P) (fun i => i ∉ L)) 0 D := by
  obtain ⟨pre, i, ⟨R, rfl⟩, hv⟩ := ht
  intro hF
  have hi : i ∈ pre ++ [i] ++ R := by simp
  obtain ⟨u, hu, u1, u0⟩ := dual_of_span (D := D) h.byt (hn i hi) (fun hq => hq hi) (hF (M i) (h.byt i) (fun j hj => h.nought i j (by omega)))
  have := hv u (ck0_span h.unit hu) (fun j hj => u0 j (fun e => by
    subst e
    rw [List.append_assoc] at hnd
    have := (List.nodup_append.1 hnd).2.2 j hj j (by simp)
    exact this rfl) (fun hq => hq (by simp [hj])))
  rw [u1] at this
  exact absurd this (by decide)
/-- shards by which all lost ones are told: the checks can be worked to leave the others -/
theorem Code.tgt {M : Nat → Nat → Nat} {D P : Nat} (h : Code M D P) {L : List Nat} {C : Ck} (hnd : L.Nodup) (hn : ∀ i ∈ L, i < D + P) (ht : ToldBy (ck0 M D P) (Dual M D (D + P)) L C) (Q : Nat → Prop) (hQ : ∀ i, i ∈ L → ¬ Q i)
    (hs : ∀ i ∈ L, Span (Sel M (D + P) Q) (M i)) : Tgt (fun j => j ∉ L ∧ ¬ Q j) C := by
  intro k hk
  have hkL : k < L.length := by have := ht.told; omega
  have hi : L[k] ∈ L := List.getElem_mem hkL
  obtain ⟨u, hu, u1, u0⟩ := dual_of_span (D := D) h.byt (hn _ hi) (hQ _ hi) (hs _ hi)
  refine ⟨u, ?_, hu.1, fun j hj => u0 j (fun e => hj.1 (e ▸ hi)) hj.2⟩
  rw [ht.spare]
  have hlin := dual_lin M D (D + P) h.byt
  have hkc : k < C.count := by have := ht.told; have := ht.le; omega
  refine ⟨ck0_span h.unit (hlin.2 1 (C.m k) u (by decide) (ht.all k hkc) hu), fun j hj => ?_⟩
  obtain ⟨k', hk', rfl⟩ := List.getElem_of_mem hj
  rw [addV_one _ _ (ht.byt k), ht.one k hkL k' hk']
  by_cases e : k = k'
  · subst e; rw [if_pos rfl, u1]; rfl
  · rw [if_neg e, Nat.xor_zero]
    refine u0 _ (fun e2 => e ?_) (hQ _ hj)
    exact (nodup_inj hnd hk' hkL e2).symm
/-- what the search leaves: it tells each lost shard by others -/
structure Plan (M : Nat → Nat → Nat) (D P : Nat) (L : List Nat) (B : Ck) : Prop where
  told : B.told = L.length
  le : B.told ≤ B.count
  most : B.count ≤ P
  byt : Byt B
  dual : ∀ k, k < B.told → Dual M D (D + P) (B.m k)
  one : ∀ k, k < L.length → ∀ k' (h : k' < L.length), B.m k L[k'] = if k = k' then 1 else 0
theorem Code.plan {M : Nat → Nat → Nat} {D P : Nat} (h : Code M D P) {L : List Nat} {C B : Ck} (ht : ToldBy (ck0 M D P) (Dual M D (D + P)) L C) (hr : Reach C B) : Plan M D P L B := by
  have hdead : ∀ j ∈ L, Dead C j := fun j hj r h1 h2 => ((ht.spare (C.m r)).1 (Span.mem (ht.byt r) ⟨r, h1, h2, rfl⟩)).2 j hj
  obtain ⟨b, t, le, cc, al, on, _⟩ := hr.good (dual_lin M D (D + P) h.byt) ht.byt ht.le ht.all hdead
  have h1 := ht.told
  have h2 := ht.count
  refine ⟨by omega, le, by have : C.count = P := h2; omega, b, fun k hk => al k (by omega), fun k hk k' hk' => ?_⟩
  rw [on k (by omega) _ (List.getElem_mem hk'), ht.one k hk k' hk']
theorem Plan.tells {M : Nat → Nat → Nat} {D P : Nat} {L : List Nat} {B : Ck} (hC : Code M D P) (h : Plan M D P L B) (hn : ∀ i ∈ L, i < D + P) : ∀ i ∈ L, Span (Sel M (D + P) (fun j => j ∉ L ∧ readsB B j = true)) (M i) := by
  intro i hi
  obtain ⟨k, hk, rfl⟩ := List.getElem_of_mem hi
  have hkt : k < B.told := by have := h.told; omega
  refine span_of_dual hC.byt hC.nought (hn _ hi) (h.dual k hkt) (by rw [h.one k hk k hk, if_pos rfl]) ?_
  intro j _ hj hne
  refine ⟨fun hjL => ?_, readsB_true hkt hne⟩
  obtain ⟨k', hk', rfl⟩ := List.getElem_of_mem hjL
  rw [h.one k hk k' hk'] at hne
  by_cases e : k = k'
  · subst e; exact hj rfl
  · rw [if_neg e] at hne; exact hne rfl
/-- what the repaired shard holds -/
theorem Plan.sum {M : Nat → Nat → Nat} {D P : Nat} {L : List Nat} {B : Ck} (hC : Code M D P) (h : Plan M D P L B) (hn : ∀ i ∈ L, i < D + P) (d : Nat → Nat) (hd : byteV d) (k : Nat) (hk : k < L.length) :
    xs (fun i => if i ∈ L then 0 else gm (B.m k i) (xs (fun j => gm (M i j) (d j)) D)) (D + P) = xs (fun j => gm (M L[k] j) (d j)) D := by
  have hkt : k < B.told := by have := h.told; omega
  obtain ⟨v1, v2, v3⟩ := h.dual k hkt
  have hi := hn _ (List.getElem_mem hk)
  have hsl : ∀ i, xs (fun j => gm (M i j) (d j)) D < 256 := fun i => xs_lt D (fun j _ => gm_lt _ (hC.byt i j))
  have swap : ∀ n, xs (fun i => gm (B.m k i) (xs (fun j => gm (M i j) (d j)) D)) n = xs (fun j => gm (xs (fun i => gm (B.m k i) (M i j)) n) (d j)) D := by
    intro n
    induction n with
    | zero => exact (xs_nought D (fun j _ => zero_gm _)).symm
    | succ n ih =>
      show xs _ n ^^^ gm (B.m k n) (xs (fun j => gm (M n j) (d j)) D) = _
      rw [ih, ← xs_gm, ← xs_xor]
      apply xs_congr
      intro j _
      show _ = gm (xs _ n ^^^ gm (B.m k n) (M n j)) (d j)
      rw [add_gm _ (xs_lt n (fun i _ => gm_lt _ (v1 i))) (gm_lt _ (v1 n)), gm_assoc (v1 n) (hC.byt n j) (hd j)]
  have h0 : xs (fun i => gm (B.m k i) (xs (fun j => gm (M i j) (d j)) D)) (D + P) = 0 := by
    rw [swap]
    exact xs_nought D (fun j hj => by rw [v3 j hj, zero_gm])
  have e : xs (fun i => gm (B.m k i) (xs (fun j => gm (M i j) (d j)) D)) (D + P) = xs (fun i => (if i ∈ L then 0 else gm (B.m k i) (xs (fun j => gm (M i j) (d j)) D)) ^^^ (if i = L[k] then xs (fun j => gm (M L[k] j) (d j)) D else 0)) (D + P) := by
    apply xs_congr
    intro i _
    by_cases hm : i ∈ L
    · obtain ⟨k', hk', rfl⟩ := List.getElem_of_mem hm
      rw [if_pos hm, Nat.zero_xor, h.one k hk k' hk']
      by_cases e : L[k'] = L[k]
      · rw [if_pos e, e]
        by_cases e2 : k = k'
        · rw [if_pos e2, gm_comm (by decide) (hsl _), gm_one _ (hsl _)]
        · have c1 := h.one k hk k hk
          have c2 := h.one k hk k' hk'
          rw [e, c1, if_pos rfl, if_neg e2] at c2
          exact absurd c2 (by decide)
      · rw [if_neg e, if_neg (fun e2 => e (by subst e2; rfl)), zero_gm]
    · rw [if_neg hm, if_neg (show ¬ i = L[k] from fun e2 => hm (by rw [e2]; exact List.getElem_mem hk)), Nat.xor_zero]
  rw [e, xs_xor, xs_one (f := fun i => if i = L[k] then xs (fun j => gm (M L[k] j) (d j)) D else 0) (k := L[k]) _ hi] at h0
  · rw [if_pos rfl] at h0; exact xor_eq h0
  · intro i _ ne; rw [if_neg ne]
end Go.Proofs.YtbgiechfhfeaeaaDoor.Gf
/-
  A multiple of one row is added to another, in the midst of a block that holds other things too.
-/
namespace Go.Proofs.YtbgiechfhfeaeaaDoor
open Go.RowKit Go.Deep Gf

/-- the first k places from off on have had their multiples added; f: what the block holds -/
def mid (f : Nat → Value) (g F : Nat → Nat) (c off k j : Nat) : Value := if off ≤ j ∧ j < off + k then .int .u8 ((g j ^^^ gm c (F (j - off)) : Nat) : Int) else f j
def AdM (w : World) (b t N off k c tb fb foff : Nat) (f : Nat → Value) (g F : Nat → Nat) (i : Value) (wr : World) : Prop :=
  ∃ j : Nat, j ≤ k ∧ i = .int .i64 j ∧ wr.rowIs b t N (mid f g F c off j) ∧ TableAt wr tb c ∧ (∀ i, i < k → wr.cell? ⟨fb, foff + i, none⟩ = some (.int .u8 ((F i : Nat) : Int))) ∧ w.grownBy wr (some b)
theorem mid_step (f : Nat → Value) (g F : Nat → Nat) (c off j x : Nat) : mid f g F c off (j + 1) x = if x = off + j then .int .u8 ((g (off + j) ^^^ gm c (F j) : Nat) : Int) else mid f g F c off j x := by
  unfold mid
  by_cases h : x = off + j
  · subst h
    rw [if_pos rfl, if_pos (by omega), Nat.add_sub_cancel_left]
  · rw [if_neg h]
    by_cases h2 : off ≤ x ∧ x < off + j
    · rw [if_pos h2, if_pos (by omega)]
    · rw [if_neg h2, if_neg (by omega)]
theorem mid_zero (f : Nat → Value) (g F : Nat → Nat) (c off : Nat) : mid f g F c off 0 = f := by
  funext j; unfold mid; rw [if_neg (by omega)]
theorem mid_none {f : Nat → Value} {g F : Nat → Nat} {off n : Nat} (hfg : ∀ j, off ≤ j → j < off + n → f j = .int .u8 ((g j : Nat) : Int)) (j : Nat) : mid f g F 0 off n j = f j := by
  unfold mid
  split
  · rename_i h; rw [zero_gm, Nat.xor_zero, hfg j h.1 h.2]
  · rfl
set_option maxRecDepth 100000 in
set_option maxHeartbeats 4000000 in
theorem addTimes_mid (b t N off n cap fb foff fcap c : Nat) (f : Nat → Value) (g F : Nat → Nat) (w : World) (hc : c < 256) (hr : w.rowIs b t N f) (hfg : ∀ j, off ≤ j → j < off + n → f j = .int .u8 ((g j : Nat) : Int)) (hg : ∀ j, g j < 256) (hF : ∀ j, F j < 256) (hn : off + n ≤ N) (hcap : n ≤ 140737488355328)
    (hfc : ∀ i, i < n → w.cell? ⟨fb, foff + i, none⟩ = some (.int .u8 ((F i : Nat) : Int))) (hdis : fb ≠ b ∨ foff + n ≤ off ∨ off + n ≤ foff) :
    Calls Tryd.prog 67 #[.slice (some ⟨b, off, none⟩) n cap, .slice (some ⟨fb, foff, none⟩) n fcap, .int .u8 c] w fun e w' => e = .returned (.tuple #[]) ∧ w'.rowIs b t N (mid f g F c off n) ∧ w.grownBy w' (some b) := by
  by_cases h0 : c = 0
  · subst h0
    go_enter Tryd.func67, Tryd.ntmps67
    go_wp2
    exact bodyPost_ret (v := .tuple #[]) (by simp [results, Tryd.results67]) rfl ⟨rfl, hr.congr (fun j _ => (mid_none hfg j).symm), World.grownBy.refl _ _⟩
  · have hc0 : ((c : Int) == 0) = false := by rw [beq_eq_false_iff_ne]; omega
    clear h0
    go_enter Tryd.func67, Tryd.ntmps67
    go_wp2_with fail
    refine (tableOf_any c hc _).mono ?_
    rintro e w1 ⟨cs, rfl, hsz, hget, hb1⟩
    have hs1 := hb1.size
    go_wp2_with (refine wpList_tab _ rfl (.tmp 6) (.tmp 11) rfl w1.heap.size c cs _ rfl rfl (heap_alloc_last w1 _) rfl hsz hget ?_; intro w2 hTb hg2)
    have hbl : b < w.heap.size := hr.lt
    have hW2 : w.grownBy w2 none := by
      refine ⟨hg2.os.trans hb1.os, hg2.tape.trans hb1.tape, hg2.output.trans hb1.output, ?_, fun k hk _ => ?_⟩
      · have := hg2.size; rw [nblk_alloc] at this; omega
      · rw [hg2.block k (by rw [nblk_alloc]; omega) (by intro e; simp at e; omega), blk_alloc_lt _ _ _ (by omega), hb1.block k hk]
    have hr2 : w2.rowIs b t N f := hr.of_block (hW2.block b hbl (by simp))
    have hf2 : ∀ i, i < n → w2.cell? ⟨fb, foff + i, none⟩ = some (.int .u8 ((F i : Nat) : Int)) := fun i hi => by
      have := hfc i hi
      exact hW2.cell this (by simp)
    have hw2 : w.grownBy w2 (some b) := ⟨hW2.os, hW2.tape, hW2.output, hW2.size, fun k hk _ => hW2.block k hk (by simp)⟩
    have htb : w1.heap.size ≠ b := by omega
    clear hg2 hW2 hr hfc hget hb1 hs1 hbl
    go_loopw [17] (fun i wr => AdM w b t N off n c w1.heap.size fb foff f g F i wr) (fun i _ => n - (intOf i).toNat)
    case atStart => exact ⟨0, Nat.zero_le _, rfl, by rw [mid_zero]; exact hr2, hTb, hf2, hw2⟩
    case round =>
      clear hTb hf2 hw2 hr2
      obtain ⟨j, hj, rfl, hrj, hTj, hfj, hgj⟩ := hrel
      by_cases hlt : j < n
      · have c1 := hrj.cell (i := off + j) (by omega)
        have f1 := hrj.frozen (off + j)
        have c2 := hfj j hlt
        have e1 : mid f g F c off j (off + j) = .int .u8 ((g (off + j) : Nat) : Int) := by unfold mid; rw [if_neg (by omega)]; exact hfg _ (by omega) (by omega)
        rw [e1] at c1
        have hx := u8_xor (g (off + j)) (gm c (F j)) (hg _) (gm_lt _ hc)
        have hr3 := (hrj.set (off + j) (.int .u8 ((g (off + j) ^^^ gm c (F j) : Nat) : Int))).congr (fun x _ => (mid_step f g F c off j x).symm)
        have hT3 := tableAt_set hTj (a := ⟨b, off + j, none⟩) htb (.int .u8 ((g (off + j) ^^^ gm c (F j) : Nat) : Int))
        have hg3 := grown_set hgj (off + j) (.int .u8 ((g (off + j) ^^^ gm c (F j) : Nat) : Int))
        have hf3 : ∀ i, i < n → (wr.setCell ⟨b, off + j, none⟩ (.int .u8 ((g (off + j) ^^^ gm c (F j) : Nat) : Int))).cell? ⟨fb, foff + i, none⟩ = some (.int .u8 ((F i : Nat) : Int)) := fun i hi => by
          rw [← hfj i hi]
          by_cases hbb : fb = b
          · exact World.cell?_setCell_other _ _ _ _ (by intro e; have h1 : off + j = foff + i := congrArg Addr.off e; omega)
          · exact World.cell?_of_block (blk_setCell_other _ _ _ _ hbb)
        have hFj := hF j
        have HH := hide (And.intro hr3 (And.intro hT3 (And.intro hf3 hg3)))
        have HT := hide hTj
        generalize F j = y at c2 hx hFj HH
        generalize g (off + j) = x at c1 hx HH
        clear e1 hr3 hT3 hg3 hf3 hrj hTj hfj hgj hg hF hfg
        go_wp2
        go_region_with ((go_at_call 84; refine (times_any w1.heap.size c y hc hFj _ (by exact fun j hj => HT.out j hj)).mono ?_; rintro e w' ⟨rfl, m, rfl⟩))
        all_goals
          go_wp2
          go_roundw
          case rel => exact ⟨j + 1, by omega, by go_num, HH.out.1, HH.out.2.1, HH.out.2.2.1, ⟨HH.out.2.2.2.os, HH.out.2.2.2.tape, HH.out.2.2.2.output, HH.out.2.2.2.size, HH.out.2.2.2.block⟩⟩
          case measure => simp [intOf]; omega
      · have hjn : j = n := by omega
        subst hjn
        clear hTj hfj
        go_wp2
        go_end0
        exact ⟨rfl, hrj, hgj⟩
end Go.Proofs.YtbgiechfhfeaeaaDoor
/-
  Checks in memory: a spare one that has a shard; whether a shard is read.
-/
namespace Go.Proofs.YtbgiechfhfeaeaaDoor
open Go.RowKit Go.Deep Gf

/-- what the cells of checks hold -/
def ckV (C : Ck) (k : Nat) : Value := if k < 128 then .int .u8 ((C.m (k / 16) (k % 16) : Nat) : Int) else if k = 128 then .int .i64 (C.told : Int) else .int .i64 (C.count : Int)
def CkAt (w : World) (b : Nat) (C : Ck) : Prop := w.rowIs b 127 130 (ckV C)
/-- checks that have room -/
structure CkFit (C : Ck) : Prop where
  byt : Byt C
  le : C.told ≤ C.count
  most : C.count ≤ 8
theorem CkAt.at {w : World} {b : Nat} {C : Ck} (h : CkAt w b C) (r i : Nat) (hr : r < 8) (hi : i < 16) : w.cell? ⟨b, r * 16 + i, none⟩ = some (.int .u8 ((C.m r i : Nat) : Int)) := by
  have := h.cell (i := r * 16 + i) (by omega)
  rw [this]; unfold ckV
  rw [if_pos (by omega), show (r * 16 + i) / 16 = r by omega, show (r * 16 + i) % 16 = i by omega]
theorem CkAt.toldC {w : World} {b : Nat} {C : Ck} (h : CkAt w b C) : w.cell? ⟨b, 128, none⟩ = some (.int .i64 (C.told : Int)) := h.cell (i := 128) (by decide)
theorem CkAt.countC {w : World} {b : Nat} {C : Ck} (h : CkAt w b C) : w.cell? ⟨b, 129, none⟩ = some (.int .i64 (C.count : Int)) := h.cell (i := 129) (by decide)
def CkSp (C : Ck) (i : Nat) (wo : World) (v : Value) (wr : World) : Prop := ∃ r : Nat, v = .int .i64 r ∧ C.told ≤ r ∧ r ≤ C.count ∧ (∀ k, C.told ≤ k → k < r → C.m k i = 0) ∧ wr = wo
/-- what spare answers -/
def spV : Option Nat → Value
  | some r => .tuple #[.int .i64 (r : Int), .bool true]
  | none => .tuple #[.int .i64 0, .bool false]
set_option maxRecDepth 100000 in
set_option maxHeartbeats 4000000 in
theorem spare_any (b i : Nat) (C : Ck) (w : World) (hC : CkAt w b C) (hf : CkFit C) (hi : i < 16) :
    Calls Tryd.prog 89 #[.pointer (some ⟨b, 0, none⟩), .int .i64 i] w fun e w' => e = .returned (spV (spareAt C i)) ∧ w' = w := by
  have ct := hC.toldC
  have cc := hC.countC
  have h1 := hf.le
  have h2 := hf.most
  have hi' : (i : Int) < 16 := by omega
  go_enter Tryd.func89, Tryd.ntmps89
  go_wp2
  go_loopw [6] (fun v wr => CkSp C i w v wr) (fun v _ => C.count - (intOf v).toNat)
  case atStart => exact ⟨C.told, rfl, Nat.le_refl _, h1, fun k a b => absurd b (by omega), rfl⟩
  case round =>
    obtain ⟨r, rfl, r1, r2, hz, rfl⟩ := hrel
    by_cases hlt : r < C.count
    · have c1 := hC.at r i (by omega) hi
      have hb := hf.byt r i
      have HZ := hide hz
      clear hz
      have hlt' : (r : Int) < C.count := by omega
      have hr8 : (r : Int) < 8 := by omega
      by_cases h0 : C.m r i = 0
      · rw [h0] at c1
        go_wp2
        go_roundw
        case rel => exact ⟨r + 1, by go_num, by omega, by omega, fun k a b => by
          by_cases e : k = r
          · rw [e]; exact h0
          · exact HZ.out k a (by omega), rfl⟩
        case measure => simp [intOf]; omega
      · have hne : ((C.m r i : Nat) : Int) ≠ 0 := by omega
        have hs := spareAt_first r1 hlt h0 HZ.out
        have HS := hide hs
        clear hs h0
        go_wp2
        refine bodyPost_ret (v := .tuple #[.int .i64 (r : Int), .bool true]) (by simp [results, Tryd.results89]) rfl ?_
        rw [HS.out]
        exact ⟨rfl, rfl⟩
    · have hlt' : ¬ (r : Int) < C.count := by omega
      have hs := spareAt_never (C := C) (i := i) (fun k a b => hz k a (by omega))
      have HS := hide hs
      clear hs hz
      go_wp2
      refine bodyPost_ret (v := .tuple #[.int .i64 0, .bool false]) (by simp [results, Tryd.results89]) rfl ?_
      rw [HS.out]
      exact ⟨rfl, rfl⟩
def RdR (C : Ck) (i : Nat) (wo : World) (v : Value) (wr : World) : Prop := ∃ r : Nat, v = .int .i64 r ∧ r ≤ C.told ∧ (∀ k, k < r → C.m k i = 0) ∧ wr = wo
set_option maxRecDepth 100000 in
set_option maxHeartbeats 4000000 in
theorem reads_any (b i : Nat) (C : Ck) (w : World) (hC : CkAt w b C) (hf : CkFit C) (hi : i < 16) :
    Calls Tryd.prog 93 #[.pointer (some ⟨b, 0, none⟩), .int .i64 i] w fun e w' => e = .returned (.bool (readsB C i)) ∧ w' = w := by
  have ct := hC.toldC
  have h1 := hf.le
  have h2 := hf.most
  have hi' : (i : Int) < 16 := by omega
  go_enter Tryd.func93, Tryd.ntmps93
  go_wp2
  go_loopw [10] (fun v wr => RdR C i w v wr) (fun v _ => C.told - (intOf v).toNat)
  case atStart => exact ⟨0, rfl, Nat.zero_le _, fun k h => absurd h (by omega), rfl⟩
  case round =>
    obtain ⟨r, rfl, r2, hz, rfl⟩ := hrel
    by_cases hlt : r < C.told
    · have c1 := hC.at r i (by omega) hi
      have hb := hf.byt r i
      have HZ := hide hz
      clear hz
      have hlt' : (r : Int) < C.told := by omega
      have hr8 : (r : Int) < 8 := by omega
      by_cases h0 : C.m r i = 0
      · rw [h0] at c1
        go_wp2
        go_roundw
        case rel => exact ⟨r + 1, by go_num, by omega, fun k b => by
          by_cases e : k = r
          · rw [e]; exact h0
          · exact HZ.out k (by omega), rfl⟩
        case measure => simp [intOf]; omega
      · have hne : ((C.m r i : Nat) : Int) ≠ 0 := by omega
        have hs := readsB_true hlt h0
        have HS := hide hs
        clear hs h0
        go_wp2
        go_ret
        rw [HS.out]
        exact ⟨rfl, rfl⟩
    · have hlt' : ¬ (r : Int) < C.told := by omega
      have hs := (readsB_false (C := C) (i := i)).2 (fun k a => hz k (by omega))
      have HS := hide hs
      clear hs hz
      go_wp2
      go_ret
      rw [HS.out]
      exact ⟨rfl, rfl⟩
end Go.Proofs.YtbgiechfhfeaeaaDoor
