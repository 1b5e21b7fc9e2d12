import Derived.Test.YtogdeaaphdlchaaGreatDoorPart04
import Derived.ChangeKeysEq
import Derived.Laws.StructEq
/-
  Records: a block made of a record, and read back.
-/
namespace Go.Proofs.YtogdeaaphdlchaaGreatDoor
open Go.RowKit Go.Deep

theorem list6 {vs : List Value} (h : vs.length = 6) : ∃ x0 x1 x2 x3 x4 x5, vs = [x0, x1, x2, x3, x4, x5] := by
  match vs, h with
  | [x0, x1, x2, x3, x4, x5], _ => exact ⟨_, _, _, _, _, _, rfl⟩
/-- two blocks of noughts -/
structure Two (w0 w : World) (r b : Nat) (l : List Nat) : Prop where
  res : BlkAt w r zb
  blk : BlkAt w b l
  below : Below w0.heap.size w0 w
  rs : r = w0.heap.size
  bs : b = w0.heap.size + 1
theorem Two.new (w : World) : Two w ((w.alloc (.cells (blkA zb) 157)).alloc (.cells (blkA zb) 157)) w.heap.size (w.heap.size + 1) zb := by
  refine ⟨(blk_alloc_lt _ _ _ (by simp)).trans (blk_alloc_new _ _), ?_, ((Below.refl _ w).alloc (Nat.le_refl _) _).alloc (by simp) _, rfl, rfl⟩
  have := blk_alloc_new (w.alloc (.cells (blkA zb) 157)) (.cells (blkA zb) 157)
  simpa [BlkAt] using this
theorem Two.mono {w0 w w' : World} {r b : Nat} {l : List Nat} (h : Two w0 w r b l) (hb : Below w.heap.size w w') : Two w0 w' r b l :=
  ⟨h.res.keep (hb.block _ h.res.lt), h.blk.keep (hb.block _ h.blk.lt), h.below.trans (hb.mono (by have := h.res.lt; have := h.rs; omega)), h.rs, h.bs⟩
theorem Two.set {w0 w w' : World} {r b : Nat} {l l' : List Nat} (h : Two w0 w r b l) (hO : Outside (fun k => k = b) w w') (hb : BlkAt w' b l') : Two w0 w' r b l' :=
  ⟨h.res.keep (hO.block _ h.res.lt (fun e => by have := h.rs; have := h.bs; omega)), hb, h.below.trans (hO.below fun k hk => ⟨by have := h.blk.lt; have := h.bs; omega, fun e => by have := h.bs; omega⟩), h.rs, h.bs⟩
theorem hvLaid.below {w w' : World} {B : Nat} (h : hvLaid w) (hb : Below B w w') (hB : 2 < B) : hvLaid w' := fun j hj => (hb.cell (p := ⟨2, j, none⟩) hB).trans (h j hj)
theorem hvLaid.lt {w : World} (h : hvLaid w) : 2 < w.heap.size := block_lt_of_cell (h 0 (by decide))
/-- what a sealed body is -/
theorem seal_eq {body : List Nat} (hb : body.length ≤ 60) : spl (spl zb 4 body) 0 (be (crc ((spl zb 4 body).drop 4)) 4) = sealed body := by
  have e1 : (spl zb 4 body).drop 4 = body ++ List.replicate (60 - body.length) 0 := by
    unfold spl
    rw [List.drop_append_of_le_length (by simp [zb]), show (List.take 4 zb).drop 4 = [] by simp [zb]]
    simp only [List.nil_append]
    congr 1
    unfold zb
    rw [List.drop_replicate]
    congr 1
    omega
  have e2 : ∀ (X s : List Nat), spl X 0 s = s ++ X.drop s.length := fun X s => by unfold spl; rw [List.take_zero, List.nil_append, Nat.zero_add]
  rw [e2, be_len, e1]
  rfl
theorem spl_lt {l src : List Nat} {off : Nat} (h1 : ∀ x ∈ l, x < 256) (h2 : ∀ x ∈ src, x < 256) : ∀ x ∈ spl l off src, x < 256 := by
  intro x hx
  unfold spl at hx
  simp only [List.mem_append] at hx
  rcases hx with h | h | h
  · exact h1 x (List.mem_of_mem_take h)
  · exact h2 x h
  · exact h1 x (List.mem_of_mem_drop h)
theorem zb_lt : ∀ x ∈ zb, x < 256 := fun x hx => by have := List.eq_of_mem_replicate hx; omega
set_option maxRecDepth 100000 in
set_option maxHeartbeats 2000000 in
theorem block_blank (w : World) : Calls Tryz.prog 77 #[recV .blank] w fun e w' => e = .returned (.agg (blkA Rec.blank.blk)) ∧ Below w.heap.size w w' := by
  have hz := zeroBlk
  have hszz : (blkA zb).size = 64 := by rw [blkA_size, zb_len]
  have h0 := Two.new w
  obtain ⟨w1, hw1⟩ : ∃ w1, (w.alloc (.cells (blkA zb) 157)).alloc (.cells (blkA zb) 157) = w1 := ⟨_, rfl⟩
  rw [hw1] at h0
  have H0 := hide h0
  clear h0
  unfold recV
  go_enter Tryz.func77, Tryz.ntmps77
  go_wp2_with fail
  refine (blank_body w1).mono ?_
  rintro e w2 ⟨rfl, hb2⟩
  have h2 := H0.out.mono hb2
  have H2 := hide h2
  clear h2 hb2 H0
  go_wp2_with (first | (refine bl_load rfl (.tmp 3) rfl (w.heap.size + 1) zb rfl H2.out.blk zb_len ?_) | (refine bl_store rfl (.tmp 2) (.tmp 19) rfl w.heap.size zb zb rfl rfl H2.out.res zb_len zb_len ?_))
  have h3 := H2.out.res.setRow zb
  refine bodyPost_ret (v := .agg (blkA zb)) (results_cell_row Tryz.results77 _ _ w.heap.size 157 (blkA zb) (0, 0) _ rfl h3 Tryz.underlying157 rfl (blkA_info zb_len)) rfl ?_
  exact ⟨rfl, H2.out.below.trans ⟨rfl, rfl, rfl, by simp [World.setRow], fun k hk => (grown_setRow' _ _ _).block k (by have := H2.out.res.lt; omega) (fun e => by cases e; omega)⟩⟩
set_option maxRecDepth 100000 in
set_option maxHeartbeats 2000000 in
theorem block_root (D L G t f n : Nat) (w : World) (hok : (Rec.root D L G t f n).ok) (hv : hvLaid w) :
    Calls Tryz.prog 77 #[recV (.root D L G t f n)] w fun e w' => e = .returned (.agg (blkA (Rec.root D L G t f n).blk)) ∧ Below w.heap.size w w' := by
  have hz := zeroBlk
  have hszz : (blkA zb).size = 64 := by rw [blkA_size, zb_len]
  have h0 := Two.new w
  obtain ⟨w1, hw1⟩ : ∃ w1, (w.alloc (.cells (blkA zb) 157)).alloc (.cells (blkA zb) 157) = w1 := ⟨_, rfl⟩
  rw [hw1] at h0
  have hbl := body_len hok
  have hbx := body_lt hok
  have hblk : (Rec.root D L G t f n).blk = sealed (Rec.root D L G t f n).body := by unfold Rec.blk; rw [if_neg (by simp [Rec.body])]
  have hb20 : 0 < (Rec.root D L G t f n).body.length := by simp [Rec.body]
  have hcall := root_body D L G t f n w1 hok
  rw [hblk]
  obtain ⟨body, hbody⟩ : ∃ body, (Rec.root D L G t f n).body = body := ⟨_, rfl⟩
  rw [hbody] at hbl hbx hb20 hcall ⊢
  have H0 := hide (And.intro h0 (And.intro hbx hv))
  unfold recV
  obtain ⟨ra, hra⟩ : ∃ ra, rootA D L G t f n = ra := ⟨_, rfl⟩
  simp only [hra] at hcall ⊢
  clear h0 hbx hv hok hblk hra hbody
  go_enter Tryz.func77, Tryz.ntmps77
  go_wp2_with fail
  refine hcall.mono ?_
  clear hcall
  rintro e w2 ⟨v, rfl, hS, hb2⟩
  have h2 := H0.out.1.mono hb2
  obtain ⟨ao, c, rfl, hc1, hc2, hc3, hc4⟩ := id hS
  have hpos : (0 : Int) < ((body.length : Nat) : Int) := by omega
  have hne : body ≠ [] := by intro e; rw [e] at hb20; simp at hb20
  have hcp := blk_copy (n := 60) (cap := 60) (off := 4) 3 h2.blk hS hne (by omega) (by rw [zb_len]; omega)
  have h3 : Two w (w2.setRow (w.heap.size + 1) (blkA (spl zb 4 body))) w.heap.size (w.heap.size + 1) (spl zb 4 body) := h2.set (Outside.setRow (S := fun k => k = w.heap.size + 1) _ _ _ rfl) (h2.blk.setRow _)
  obtain ⟨w3, hw3⟩ : ∃ w3, w2.setRow (w.heap.size + 1) (blkA (spl zb 4 body)) = w3 := ⟨_, rfl⟩
  rw [hw3] at hcp h3
  have hl1 : (spl zb 4 body).length = 64 := by rw [spl_len (by rw [zb_len]; omega), zb_len]
  have hG := H0.out.2.2.lt
  have hv3 : hvLaid w3 := H0.out.2.2.below h3.below hG
  have H3 := hide (And.intro h3 hv3)
  clear h2 hS hb2 hc1 hc2 hc3 hc4 hw3 h3 hv3 hne
  go_wp2_with fail
  refine block_region (by kernel_rfl) H3.out.1.blk hl1 (spl_lt zb_lt H0.out.2.1) H3.out.2 (by omega) rfl rfl ?_
  intro w4 vs hvs hB4 hO4
  obtain ⟨x0, x1, x2, x3, x4, x5, rfl⟩ := list6 hvs
  have h4 := H3.out.1.set hO4 hB4
  rw [seal_eq hbl] at h4
  have hl4 : (sealed body).length = 64 := by unfold sealed; simp [be_len]; omega
  obtain ⟨sb, hsb⟩ : ∃ sb, sealed body = sb := ⟨_, rfl⟩
  rw [hsb] at h4 hl4
  have HSB := hide hsb
  have H4 := hide h4
  clear h4 hB4 hO4 hvs hsb
  rename_i hK
  refine hK _ _ ?_
  clear hK
  simp only [Act.putFrom, Act.put, List.setIfInBounds_toArray, List.set_cons_succ, List.set_cons_zero]
  go_wp2_with (first | (refine bl_load rfl (.tmp 3) rfl (w.heap.size + 1) sb rfl H4.out.blk hl4 ?_) | (refine bl_store rfl (.tmp 2) (.tmp 19) rfl w.heap.size sb zb rfl rfl H4.out.res zb_len hl4 ?_))
  have h5 := H4.out.res.setRow sb
  refine bodyPost_ret (v := .agg (blkA sb)) (results_cell_row Tryz.results77 _ _ w.heap.size 157 (blkA sb) (0, 0) _ rfl h5 Tryz.underlying157 rfl (blkA_info hl4)) rfl ?_
  exact ⟨by rw [HSB.out], H4.out.below.trans ⟨rfl, rfl, rfl, by simp [World.setRow], fun k hk => (grown_setRow' _ _ _).block k (by have := H4.out.res.lt; omega) (fun e => by cases e; omega)⟩⟩
/-! ### Of -/
/-- what Block makes of a record -/
def Makes (r : Rec) : Prop := ∀ w, hvLaid w → Calls Tryz.prog 77 #[recV r] w fun e w' => e = .returned (.agg (blkA r.blk)) ∧ Below w.heap.size w w'
theorem makes_blank : Makes .blank := fun w _ => block_blank w
theorem makes_root {D L G t f n : Nat} (hok : (Rec.root D L G t f n).ok) : Makes (.root D L G t f n) := fun w hv => block_root D L G t f n w hok hv
noncomputable def ROf : Array Oper := ((Tryz.f56.body.bind (rgf · 2))).getD #[]
def shOf : List (Op × Option Nat × List Nat) := [(Op.move (Operand.tmp 4), some 7, []),
    (Op.call { callee := Callee.value (Operand.func 77), args := #[Operand.tmp 7], argTypes := #[125] }, some 8, [0]),
    (Op.load 157 (Operand.tmp 1), some 9, []),
    (Op.binOp BinOp.neq 157 (Operand.tmp 8) (Operand.tmp 9) 157, some 10, [1, 2])]
theorem ROf_shape : RegShape ROf 7 11 shOf := regShape (by kernel_rfl) (by kernel_rfl)
theorem Tryz.cellsByte1 : Tryz.prog.cellsOf 5 = 1 := by kernel_rfl
theorem part_byte (l : List Nat) (i : Nat) (hi : i < l.length) (w : World) : (part 5 (blkA l) (i * 1)).run Tryz.prog w = .ok (.int .u8 ((l.getD i 0 : Nat) : Int)) w := by
  have hg : (blkA l)[i]? = some (.int .u8 ((l.getD i 0 : Nat) : Int)) := by
    unfold blkA bts
    rw [List.getElem?_toArray, List.getElem?_map, List.getElem?_eq_getElem hi, List.getD_eq_getElem?_getD, List.getElem?_eq_getElem hi]; rfl
  rw [Nat.mul_one]
  have hu := Tryz.underlying5
  simp [part, isAgg, run_underlying hu, hg]
theorem eq_bytes (d : Nat) (l1 l2 : List Nat) (w : World) : ∀ (is : List Nat), (∀ i ∈ is, i < l1.length ∧ i < l2.length) → (Op.eqItems (d + 1) 5 1 (blkA l1) (blkA l2) is).run Tryz.prog w = .ok (is.all fun i => l1.getD i 0 == l2.getD i 0) w
  | [], _ => by simp [Op.eqItems]
  | i :: is, h => by
    obtain ⟨h1, h2⟩ := h i (by simp)
    have ih := eq_bytes d l1 l2 w is (fun j hj => h j (by simp [hj]))
    have he := run_equalIn_int (P := Tryz.prog) (w := w) d 5 .u8 .u8 ((l1.getD i 0 : Nat) : Int) ((l2.getD i 0 : Nat) : Int) Tryz.underlying5
    simp only [Op.eqItems, Sem.run_bind, part_byte l1 i h1 w, part_byte l2 i h2 w, Result.andThen_ok, he, List.all_cons]
    generalize l1.getD i 0 = x
    generalize l2.getD i 0 = y
    by_cases e : x = y
    · subst e
      rw [if_neg (by simp), ih]
      simp
    · have e2 : ¬ ((x : Nat) : Int) = ((y : Nat) : Int) := fun q => e (by omega)
      have e3 : ((x : Int) == (y : Int)) = false := by simpa using e2
      have e4 : (x == y) = false := by simpa using e
      rw [e3, e4]
      simp
theorem all_same {l1 l2 : List Nat} (h1 : l1.length = 64) (h2 : l2.length = 64) : ((List.range 64).all fun i => l1.getD i 0 == l2.getD i 0) = decide (l1 = l2) := by
  rw [Bool.eq_iff_iff, List.all_eq_true, decide_eq_true_eq]
  constructor
  · intro h
    refine List.ext_getElem (by omega) fun i a1 a2 => ?_
    have := h i (List.mem_range.2 (by omega))
    simpa [a1, a2] using this
  · rintro rfl i _
    simp
theorem eq_blk (l1 l2 : List Nat) (h1 : l1.length = 64) (h2 : l2.length = 64) (w : World) : (Op.equalIn 10000 157 (.agg (blkA l1)) (.agg (blkA l2))).run Tryz.prog w = .ok (decide (l1 = l2)) w := by
  obtain ⟨i0, hi0, _⟩ := info_parts Tryz.infoByte
  rw [show (10000 : Nat) = 9998 + 1 + 1 from rfl, run_equalIn_array w (9998 + 1) (t := 157) (e := 5) (n := 64) (blkA l1) (blkA l2) Tryz.underlying157 hi0, Tryz.cellsByte1, eq_bytes 9998 l1 l2 w _ (fun i hi => by have := List.mem_range.1 hi; omega), all_same h1 h2]
set_option maxRecDepth 100000 in
set_option maxHeartbeats 1000000 in
theorem of_region {ops : Array Oper} {Q : Exit → Act → World → Prop} {a : Act} {w : World} {b : Nat} {l : List Nat} {r : Rec} (hops : ROf = ops) (hm : Makes r) (hr : r.ok) (hB : BlkAt w b l) (hl : l.length = 64) (hv : hvLaid w) (hsz : a.tmps.size = 12)
    (e1 : a.eval (.tmp 1) = .pointer (some ⟨b, 0, none⟩)) (e4 : a.eval (.tmp 4) = recV r) (hQ : ∀ (w' : World), Below w.heap.size w w' → Q .normal (Act.putFrom a 7 [recV r, .agg (blkA r.blk), .agg (blkA l), .bool (!decide (r.blk = l))]) w') : (Code.region 2 ops true).wp Tryz.prog Q a w := by
  subst hops
  refine region_facts (by kernel_rfl) ROf_shape a w (by omega) (fun i v _ => v = [recV r, .agg (blkA r.blk), .agg (blkA l), .bool (!decide (r.blk = l))].getD i undef) (fun _ w' => BlkAt w' b l ∧ Below w.heap.size w w') ⟨hB, (Below.refl _ w).drew⟩ ?_ ?_
  · intro i hi
    match i, hi with
    | 0, _ => exact fun o a' w' D hg ho hdst hk hDi hcl hdep hB hV => op_val (run_op_move ho ((hk.slot 4 (by omega)).trans e4) w') hdst ⟨hB, rfl, fun _ _ _ q => q⟩
    | 1, _ =>
      intro o a' w' D hg ho hdst hk hDi hcl hdep hB' hV
      have u0 : a'.eval (.tmp 7) = recV r := hV 0 (hdep 0 (by decide))
      refine op_call (f := 77) (args := #[recV r]) (w1 := w') (by simp only [execOp, show o.op = Op.call { callee := Callee.value (Operand.func 77), args := #[Operand.tmp 7], argTypes := #[125] } from ho]; go_simp; simpa [Act.eval] using u0) hdst (hm w' (hv.below hB'.2 hv.lt)) ?_
      rintro e w'' ⟨rfl, hb⟩
      exact ⟨_, rfl, ⟨hB'.1.keep (hb.block _ hB'.1.lt), hB'.2.trans (hb.mono hB'.2.size)⟩, rfl, fun _ _ _ q => q⟩
    | 2, _ =>
      intro o a' w' D hg ho hdst hk hDi hcl hdep hB' hV
      have u0 : a'.eval (.tmp 1) = .pointer (some ⟨b, 0, none⟩) := (hk.slot 1 (by omega)).trans e1
      exact op_val (v := .agg (blkA l)) (by simp [execOp, show o.op = Op.load 157 (.tmp 1) from ho, u0, blk_loadAt hB'.1 hl]) hdst ⟨hB', rfl, fun _ _ _ q => q⟩
    | 3, _ =>
      intro o a' w' D hg ho hdst hk hDi hcl hdep hB' hV
      have u0 : a'.eval (.tmp 8) = .agg (blkA r.blk) := hV 1 (hdep 1 (by decide))
      have u1 : a'.eval (.tmp 9) = .agg (blkA l) := hV 2 (hdep 2 (by decide))
      exact op_val (v := .bool (!decide (r.blk = l))) (by simp only [execOp, show o.op = Op.binOp BinOp.neq 157 (Operand.tmp 8) (Operand.tmp 9) 157 from ho, u0, u1]; go_simp; rw [eq_blk r.blk l (blk_len hr) hl w']; rfl) hdst ⟨hB', rfl, fun _ _ _ q => q⟩
    | n + 4, hn => exact absurd hn (by show ¬ n + 4 < 4; omega)
  · rintro a' w' hk' ⟨D, hD, hB'⟩ hV
    have hvv : ∀ i : Nat, i < 4 → a'.eval (.tmp (7 + i)) = [recV r, .agg (blkA r.blk), .agg (blkA l), .bool (!decide (r.blk = l))].getD i undef := by
      intro i hi
      match i, hi with
      | 0, _ => exact hV 0 (by decide)
      | 1, _ => exact hV 1 (by decide)
      | 2, _ => exact hV 2 (by decide)
      | 3, _ => exact hV 3 (by decide)
      | n + 4, hn => exact absurd hn (by show ¬ n + 4 < 4; omega)
    rw [hk'.out [recV r, .agg (blkA r.blk), .agg (blkA l), .bool (!decide (r.blk = l))] rfl (by omega) hvv]
    exact hQ w' hB'.2
set_option maxRecDepth 100000 in
set_option maxHeartbeats 2000000 in
/-- a block that is just as Block makes one -/
theorem of_ok (r : Rec) (w : World) (hm : Makes r) (hr : r.ok) (hv : hvLaid w) :
    Calls Tryz.prog 56 #[.agg (blkA r.blk)] w fun e w' => e = .returned (.tuple #[recV r, .bool true]) ∧ Below w.heap.size w w' := by
  have hl := blk_len hr
  have hx := blk_lt hr
  have hp := prs_blk hr
  have hb := BlkAt.new w r.blk
  have hbw : Below w.heap.size w (w.alloc (.cells (blkA r.blk) 157)) := (Below.refl _ w).alloc (Nat.le_refl _) _
  have hszz : (blkA r.blk).size = 64 := by rw [blkA_size, hl]
  obtain ⟨w1, hw1⟩ : ∃ w1, w.alloc (.cells (blkA r.blk) 157) = w1 := ⟨_, rfl⟩
  rw [hw1] at hb hbw
  have hc := parse_any r.blk w1 hl hx
  rw [hp] at hc
  obtain ⟨rv, hrv⟩ : ∃ rv, recV r = rv := ⟨_, rfl⟩
  obtain ⟨l, hll⟩ : ∃ l, r.blk = l := ⟨_, rfl⟩
  rw [hll] at hl hx hb hszz hc hw1 ⊢
  rw [hrv] at hc ⊢
  have HR := hide (And.intro hrv hll)
  have H1 := hide (And.intro hb hbw)
  clear hx hp hb hbw hrv hll
  go_enter Tryz.func56, Tryz.ntmps56
  go_wp2_with (refine bl_load rfl (.tmp 1) rfl w.heap.size l rfl H1.out.1 hl ?_)
  refine hc.mono ?_
  rintro e w2 ⟨rfl, hb2⟩
  have hB2 := H1.out.1.keep (hb2.block _ H1.out.1.lt)
  have hbw2 := H1.out.2.trans (hb2.mono H1.out.2.size)
  have H2 := hide (And.intro hB2 hbw2)
  clear hc hb2 hB2 hbw2
  go_wp2_with fail
  refine of_region (by kernel_rfl) hm hr H2.out.1 hl (hv.below H2.out.2 hv.lt) rfl rfl HR.out.1.symm ?_
  intro w3 hb3
  rw [HR.out.1, HR.out.2, decide_eq_true (rfl : l = l)]
  have hbw3 := H2.out.2.trans (hb3.mono H2.out.2.size)
  have H3 := hide hbw3
  clear hb3 hbw3
  rename_i hK
  refine hK _ _ ?_
  clear hK
  simp only [Act.putFrom, Act.put, List.setIfInBounds_toArray, List.set_cons_succ, List.set_cons_zero]
  go_wp2
  go_ret2
  exact ⟨rfl, H3.out⟩
end Go.Proofs.YtogdeaaphdlchaaGreatDoor
/-
  Records: a drive that is filled, and a shard, as blocks.
-/
namespace Go.Proofs.YtogdeaaphdlchaaGreatDoor
open Go.RowKit Go.Deep

theorem Brow.heapB {w : World} {b : Nat} {l : List Nat} (h : Brow w b l) : w.heap[b]? = some (.cells (bts l).toArray 5 (0, 0)) := by
  obtain ⟨c, hc, hs, hg⟩ := h
  have e : c = (bts l).toArray := by
    apply Array.ext_getElem?
    intro i
    by_cases hi : i < l.length
    · rw [hg i hi]
      unfold vb bts
      simp [List.getD_eq_getElem?_getD, List.getElem?_eq_getElem hi]
    · rw [Array.getElem?_eq_none (by omega), Array.getElem?_eq_none (by rw [List.size_toArray, bts_len]; omega)]
  rw [← e]; exact hc
theorem Brow.of_heapB {w : World} {b : Nat} {l : List Nat} (h : w.heap[b]? = some (.cells (bts l).toArray 5 (0, 0))) : Brow w b l :=
  ⟨_, h, by rw [List.size_toArray, bts_len], fun i hi => by
    unfold vb bts
    simp [List.getD_eq_getElem?_getD, List.getElem?_eq_getElem hi]⟩
/-- bytes copied into a block of bytes -/
theorem row_copy {w : World} {b off n cap : Nat} {l src : List Nat} {v : Value} (ty : TypeId) (hB : Brow w b l) (hS : Bs w v src) (hn : src.length ≤ n) (hf : off + src.length ≤ l.length) :
    ∃ w', (Builtin.copy_ #[166, 166] ty #[.slice (some ⟨b, off, none⟩) n cap, v]).run Tryz.prog w = .ok (.int .i64 (src.length : Nat)) w' ∧ Brow w' b (spl l off src) ∧ w.grownBy w' (some b) := by
  obtain ⟨ao, c, rfl, h1, h2, h3, h4⟩ := hS
  have hsz : (Tryz.prog.info? 5).map (fun i => i.size) = some 1 := by kernel_rfl
  by_cases h0 : src = []
  · subst h0
    refine ⟨w, run_copy_none (P := Tryz.prog) w 166 166 ty 5 (some ⟨b, off, none⟩) ao n cap 0 c Tryz.underlying166 hsz (by simp), ?_, World.grownBy.refl _ _⟩
    have e : spl l off [] = l := by unfold spl; simp
    rw [e]; exact hB
  · obtain ⟨g, o, rfl, hc⟩ := h4 h0
    have hrun := run_copy_row (P := Tryz.prog) w 166 166 ty 5 b off n cap ⟨g, o, none⟩ src.length c (bts l).toArray 5 (bts src) Tryz.underlying166 hsz hB.heapB (by rw [bts_len]; exact (Nat.min_eq_left hn).symm) (fun j u hj => by
        have hjl : j < src.length := by obtain ⟨q, _⟩ := List.getElem?_eq_some_iff.1 hj; rwa [bts_len] at q
        rw [Addr.add_mid, hc j hjl, ← hj]
        unfold bts
        rw [List.getElem?_map, List.getElem?_eq_getElem hjl, List.getD_eq_getElem?_getD, List.getElem?_eq_getElem hjl]; rfl) (by rw [bts_len, List.size_toArray, bts_len]; exact hf) (fun u hu => by
        unfold bts at hu; rw [List.mem_map] at hu; obtain ⟨x, _, rfl⟩ := hu; rfl)
    have e : (List.take off (bts l) ++ bts src ++ List.drop (off + (bts src).length) (bts l)).toArray = (bts (spl l off src)).toArray := by
      rw [bts_len]
      unfold spl
      rw [bts_append, bts_append, List.append_assoc]
      unfold bts
      rw [List.map_take, List.map_drop]
    refine ⟨w.setRow b (bts (spl l off src)).toArray, ?_, Brow.of_heapB (setRow_heap w b (bts l).toArray (bts (spl l off src)).toArray _ _ hB.heapB), grown_setRow' _ _ _⟩
    rw [hrun]
    simp only [List.append_assoc] at e ⊢
    rw [e, bts_len]
    rfl
theorem owns_lit1 (w : World) (a : Nat) : (w.alloc (.cells #[.int .u8 (a : Int)] 5)).ownsRow w.heap.size 5 1 (.slice (some ⟨w.heap.size, 0, none⟩) 1 1) 1 (bts [a]) :=
  ⟨rfl, .inr ⟨w.heap.size, 1, _, rfl, Nat.le_refl _, blk_alloc_new _ _, Nat.le_refl _, by unfold maxLen; omega, rfl, rfl⟩⟩
set_option maxRecDepth 100000 in
set_option maxHeartbeats 1000000 in
theorem filled_body (w : World) : Calls Tryz.prog 194 #[.agg #[]] w fun e w' => ∃ v, e = .returned v ∧ Bs w' v Rec.filled.body ∧ Below w.heap.size w w' := by
  have ho := owns_lit1 (w.alloc (.cells #[] 141)) 2
  have hb : Below w.heap.size w ((w.alloc (.cells #[] 141)).alloc (.cells #[.int .u8 ((2 : Nat) : Int)] 5)) := ((Below.refl _ w).alloc (Nat.le_refl _) _).alloc (by simp) _
  have H := hide (And.intro ho hb)
  clear ho hb
  go_enter Tryz.func194, Tryz.ntmps194
  go_wp2
  go_ret
  have hs := Bs.of_owns H.out.1 (fun x hx => by simp at hx; omega) (by decide)
  simp only [World.size_alloc] at hs
  exact ⟨_, rfl, hs, H.out.2⟩
noncomputable def RSb : Array Oper := ((Tryz.f197.body.bind (rgf · 3))).getD #[]
def shSb : List (Op × Option Nat × List Nat) := [(Op.move (Operand.tmp 3), some 7, []),
    (Op.slice 166 (Operand.tmp 7) (some (Operand.const (Value.int IntKind.i64 16))) none none, some 8, [0]),
    (Op.fieldAddr 212 (Operand.tmp 1) 0, some 9, []),
    (Op.slice 210 (Operand.tmp 9) none none none, some 10, [2]),
    (Op.call { callee := Callee.builtin Builtin.copy, args := #[Operand.tmp 8, Operand.tmp 10], argTypes := #[166, 166] }, some 11, [1, 3])]
theorem RSb_shape : RegShape RSb 7 12 shSb := regShape (by kernel_rfl) (by kernel_rfl)
def VSb (b q : Nat) (i : Nat) (u : Value) (_ : World) : Prop := match i with
  | 0 => u = .slice (some ⟨b, 0, none⟩) 60 60
  | 1 => u = .slice (some ⟨b, 16, none⟩) 44 44
  | 2 => u = .pointer (some ⟨q, 0, none⟩)
  | 3 => u = .slice (some ⟨q, 0, none⟩) 44 44
  | _ => True
def BSb (w0 : World) (b : Nat) (l s : List Nat) (D : Nat → Bool) (w : World) : Prop := Brow w b (if D 4 = true then spl l 16 s else l) ∧ Outside (fun k => k = b) w0 w
theorem BSb_upd {w0 : World} {b : Nat} {l s : List Nat} {D : Nat → Bool} {w : World} (h : BSb w0 b l s D w) (i : Nat) (hi : i ≠ 4) : BSb w0 b l s (upd D i) w := by
  refine ⟨?_, h.2⟩
  unfold upd
  rw [if_neg (fun e : 4 = i => hi e.symm)]
  exact h.1
set_option maxRecDepth 100000 in
set_option maxHeartbeats 1000000 in
theorem shard_region {ops : Array Oper} {Q : Exit → Act → World → Prop} {a : Act} {w : World} {b q : Nat} {l s : List Nat} (hops : RSb = ops) (hB : Brow w b l) (hl : l.length = 60) (hq : w.heap[q]? = some (.cells (bts s).toArray 212 (0, 0))) (hs : s.length = 44) (hx : ∀ x ∈ s, x < 256) (hbq : q ≠ b) (hsz : a.tmps.size = 13)
    (e3 : a.eval (.tmp 3) = .slice (some ⟨b, 0, none⟩) 60 60) (e1 : a.eval (.tmp 1) = .pointer (some ⟨q, 0, none⟩)) (hQ : ∀ (w' : World) (vs : List Value), vs.length = 5 → Brow w' b (spl l 16 s) → Outside (fun k => k = b) w w' → Q .normal (Act.putFrom a 7 vs) w') : (Code.region 3 ops true).wp Tryz.prog Q a w := by
  subst hops
  refine region_facts (by kernel_rfl) RSb_shape a w (by omega) (VSb b q) (BSb w b l s) ⟨hB, Outside.drew w⟩ ?_ ?_
  · intro i hi
    match i, hi with
    | 0, _ => exact fun o a' w' Dn hg ho hdst hk hDi hcl hdep hB hV => op_val (run_op_move ho ((hk.slot 3 (by omega)).trans e3) w') hdst ⟨BSb_upd hB _ (by decide), rfl, fun _ _ _ q => q⟩
    | 1, _ =>
      intro o a' w' D hg ho hdst hk hDi hcl hdep hB hV
      have u0 : a'.eval (.tmp 7) = .slice (some ⟨b, 0, none⟩) 60 60 := hV 0 (hdep 0 (by decide))
      exact op_val (v := .slice (some ⟨b, 16, none⟩) 44 44) (by simp only [execOp, show o.op = Op.slice 166 (Operand.tmp 7) (some (Operand.const (Value.int IntKind.i64 16))) none none from ho, u0]; go_simp) hdst ⟨BSb_upd hB 1 (by decide), rfl, fun _ _ _ q => q⟩
    | 2, _ =>
      intro o a' w' D hg ho hdst hk hDi hcl hdep hB hV
      have u0 : a'.eval (.tmp 1) = .pointer (some ⟨q, 0, none⟩) := (hk.slot 1 (by omega)).trans e1
      exact op_val (v := .pointer (some ⟨q, 0, none⟩)) (by simp only [execOp, show o.op = Op.fieldAddr 212 (Operand.tmp 1) 0 from ho, u0]; go_simp) hdst ⟨BSb_upd hB 2 (by decide), rfl, fun _ _ _ q => q⟩
    | 3, _ =>
      intro o a' w' D hg ho hdst hk hDi hcl hdep hB hV
      have u0 : a'.eval (.tmp 9) = .pointer (some ⟨q, 0, none⟩) := hV 2 (hdep 2 (by decide))
      exact op_val (v := .slice (some ⟨q, 0, none⟩) 44 44) (by simp only [execOp, show o.op = Op.slice 210 (Operand.tmp 9) none none none from ho, u0]; go_simp) hdst ⟨BSb_upd hB 3 (by decide), rfl, fun _ _ _ q => q⟩
    | 4, _ =>
      intro o a' w' D hg ho hdst hk hDi hcl' hdep hB hV
      have u0 : a'.eval (.tmp 8) = .slice (some ⟨b, 16, none⟩) 44 44 := hV 1 (hdep 1 (by decide))
      have u1 : a'.eval (.tmp 10) = .slice (some ⟨q, 0, none⟩) 44 44 := hV 3 (hdep 3 (by decide))
      have hBl : Brow w' b l := by have := hB.1; rw [if_neg (by rw [hDi]; decide)] at this; exact this
      have hq' : w'.heap[q]? = some (.cells (bts s).toArray 212 (0, 0)) := (hB.2.block q (Array.getElem?_eq_some_iff.1 hq).1 (fun e => hbq e)).trans hq
      have hbs : Bs w' (.slice (some ⟨q, 0, none⟩) s.length 44) s := Bs.mid (by omega) (by omega) hx (fun j u hu => by
        have : (bts s).toArray[j]? = some u := by simpa using hu
        simp [World.cell?, hq', this])
      rw [hs] at hbs
      obtain ⟨w2, hcp, hB2, hg2⟩ := row_copy (n := 44) (cap := 44) (off := 16) o.type hBl hbs (by omega) (by omega)
      refine op_val (v := .int .i64 (s.length : Nat)) (w' := w2) (by simp only [execOp, show o.op = Op.call { callee := Callee.builtin Builtin.copy, args := #[Operand.tmp 8, Operand.tmp 10], argTypes := #[166, 166] } from ho, resolve, invoke, builtin, Sem.run_bind, Sem.run_pure, Result.andThen_ok, List.map_toArray, List.map_cons, List.map_nil, u0, u1, hcp]) hdst ⟨⟨?_, hB.2.later (T := fun k => k = b) ⟨hg2.os, hg2.tape, hg2.output, hg2.size, fun k hk hne => hg2.block k hk (fun e => hne (by cases e; rfl))⟩ (fun _ _ q => q)⟩, trivial, fun j u hj q => by
        match j, q with
        | 0, q | 1, q | 2, q | 3, q => exact q
        | j + 4, _ => trivial⟩
      show Brow _ b (if upd D 4 4 = true then _ else _)
      rw [if_pos (by unfold upd; rw [if_pos rfl])]
      exact hB2
    | n + 5, hn => exact absurd hn (by show ¬ n + 5 < 5; omega)
  · rintro a' w' hk' ⟨D, hD, hB'⟩ hV
    have e : a' = Act.putFrom a 7 ((List.range 5).map fun i => a'.eval (.tmp (7 + i))) := hk'.out _ (by rw [List.length_map, List.length_range]) (by omega) (fun i hi => by
      rw [List.length_map, List.length_range] at hi
      rw [List.getD_eq_getElem?_getD, List.getElem?_map, List.getElem?_range hi]; rfl)
    rw [e]
    have := hB'.1
    rw [if_pos (hD 4 (by decide))] at this
    exact hQ w' _ (by rw [List.length_map, List.length_range]) this hB'.2
theorem list5 {vs : List Value} (h : vs.length = 5) : ∃ x0 x1 x2 x3 x4, vs = [x0, x1, x2, x3, x4] := by
  match vs, h with
  | [x0, x1, x2, x3, x4], _ => exact ⟨x0, x1, x2, x3, x4, rfl⟩
set_option maxRecDepth 100000 in
set_option maxHeartbeats 2000000 in
theorem shard_body (l : List Nat) (w : World) (hok : (Rec.shard l).ok) :
    Calls Tryz.prog 197 #[.agg (bts l).toArray] w fun e w' => ∃ v, e = .returned v ∧ Bs w' v (Rec.shard l).body ∧ Below w.heap.size w w' := by
  obtain ⟨hl, hx⟩ := hok
  have hq := blk_alloc_new w (.cells (bts l).toArray 212)
  have hbw : Below w.heap.size w (w.alloc (.cells (bts l).toArray 212)) := (Below.refl _ w).alloc (Nat.le_refl _) _
  have hz : (w.alloc (.cells (bts l).toArray 212)).heap.size = w.heap.size + 1 := by simp
  have hsz : (bts l).toArray.size = 44 := by rw [List.size_toArray, bts_len, hl]
  obtain ⟨w1, hw1⟩ : ∃ w1, w.alloc (.cells (bts l).toArray 212) = w1 := ⟨_, rfl⟩
  rw [hw1] at hq hbw hz
  obtain ⟨ra, hra⟩ : ∃ ra, (bts l).toArray = ra := ⟨_, rfl⟩
  have H := hide (And.intro hq (And.intro hbw (And.intro hz (And.intro hx hra))))
  rw [hra] at hw1 hsz ⊢
  clear hq hbw hz hx hra
  go_enter Tryz.func197, Tryz.ntmps197
  go_wp2_with (at_make; refine wpList_mk _ rfl (.const (.int .i64 60)) (.const (.int .i64 60)) rfl _ 60 rfl rfl rfl (by omega) ?_; intro w2 hB hb2 hz2; have c0 := hB.cell 0 (by decide); have f0 := hB.frozen 0)
  have hB3 : Brow (w2.setCell ⟨w1.heap.size, 0, none⟩ (.int .u8 3)) w1.heap.size ((List.replicate 60 0).set 0 3) := hB.set 0 3
  have hz1 := H.out.2.2.1
  have hq3 : (w2.setCell ⟨w1.heap.size, 0, none⟩ (.int .u8 3)).heap[w.heap.size]? = some (.cells (bts l).toArray 212 (0, 0)) := (blk_setCell_other _ _ _ _ (by show w.heap.size ≠ w1.heap.size; omega)).trans ((hb2.block _ (by omega)).trans H.out.1)
  have hb3 : Below w.heap.size w (w2.setCell ⟨w1.heap.size, 0, none⟩ (.int .u8 3)) := (H.out.2.1.trans (hb2.mono (by omega))).setCell (p := ⟨w1.heap.size, 0, none⟩) (by show w.heap.size ≤ w1.heap.size; omega) _
  refine shard_region (by kernel_rfl) hB3 (by simp) hq3 hl H.out.2.2.2.1 (by omega) rfl rfl rfl ?_
  intro w4 vs hvs hB4 hO4
  obtain ⟨x0, x1, x2, x3, x4, rfl⟩ := list5 hvs
  have hb4 : Below w.heap.size w w4 := hb3.trans (hO4.below fun k hk => ⟨by have := hb3.size; omega, fun e => by omega⟩)
  have he : spl ((List.replicate 60 0).set 0 3) 16 l = (Rec.shard l).body := by
    unfold spl Rec.body
    rw [hl]
    simp [List.replicate]
  rw [he] at hB4
  have hs4 := Bs.of_row (n := 60) hB4 (by rw [← he, spl_len (by simp [hl])]; simp) (by decide) (body_lt (r := .shard l) ⟨hl, H.out.2.2.2.1⟩)
  rw [List.take_of_length_le (body_len (r := .shard l) ⟨hl, H.out.2.2.2.1⟩), show (Rec.shard l).body.length = 60 by rw [← he, spl_len (by simp [hl])]; simp] at hs4
  have H4 := hide (And.intro hs4 hb4)
  clear hs4 hb4 hB4 hO4 hb3 hq3 hB3 hvs
  rename_i hK
  refine hK _ _ ?_
  clear hK
  simp only [Act.putFrom, Act.put, List.setIfInBounds_toArray, List.set_cons_succ, List.set_cons_zero]
  go_wp2
  go_ret
  exact ⟨_, rfl, H4.out.1, H4.out.2⟩
set_option maxRecDepth 100000 in
set_option maxHeartbeats 2000000 in
theorem block_filled (w : World) (hv : hvLaid w) :
    Calls Tryz.prog 77 #[recV .filled] w fun e w' => e = .returned (.agg (blkA Rec.filled.blk)) ∧ Below w.heap.size w w' := by
  have hz := zeroBlk
  have hszz : (blkA zb).size = 64 := by rw [blkA_size, zb_len]
  have h0 := Two.new w
  obtain ⟨w1, hw1⟩ : ∃ w1, (w.alloc (.cells (blkA zb) 157)).alloc (.cells (blkA zb) 157) = w1 := ⟨_, rfl⟩
  rw [hw1] at h0
  have hbl := body_len (r := .filled) trivial
  have hbx := body_lt (r := .filled) trivial
  have hblk : Rec.filled.blk = sealed Rec.filled.body := by unfold Rec.blk; rw [if_neg (by simp [Rec.body])]
  have hb20 : 0 < Rec.filled.body.length := by simp [Rec.body]
  have hcall := filled_body w1
  rw [hblk]
  obtain ⟨body, hbody⟩ : ∃ body, Rec.filled.body = body := ⟨_, rfl⟩
  rw [hbody] at hbl hbx hb20 hcall ⊢
  have H0 := hide (And.intro h0 (And.intro hbx hv))
  unfold recV
  clear h0 hbx hv hblk hbody
  go_enter Tryz.func77, Tryz.ntmps77
  go_wp2_with fail
  refine hcall.mono ?_
  clear hcall
  rintro e w2 ⟨v, rfl, hS, hb2⟩
  have h2 := H0.out.1.mono hb2
  obtain ⟨ao, c, rfl, hc1, hc2, hc3, hc4⟩ := id hS
  have hpos : (0 : Int) < ((body.length : Nat) : Int) := by omega
  have hne : body ≠ [] := by intro e; rw [e] at hb20; simp at hb20
  have hcp := blk_copy (n := 60) (cap := 60) (off := 4) 3 h2.blk hS hne (by omega) (by rw [zb_len]; omega)
  have h3 : Two w (w2.setRow (w.heap.size + 1) (blkA (spl zb 4 body))) w.heap.size (w.heap.size + 1) (spl zb 4 body) := h2.set (Outside.setRow (S := fun k => k = w.heap.size + 1) _ _ _ rfl) (h2.blk.setRow _)
  obtain ⟨w3, hw3⟩ : ∃ w3, w2.setRow (w.heap.size + 1) (blkA (spl zb 4 body)) = w3 := ⟨_, rfl⟩
  rw [hw3] at hcp h3
  have hl1 : (spl zb 4 body).length = 64 := by rw [spl_len (by rw [zb_len]; omega), zb_len]
  have hG := H0.out.2.2.lt
  have hv3 : hvLaid w3 := H0.out.2.2.below h3.below hG
  have H3 := hide (And.intro h3 hv3)
  clear h2 hS hb2 hc1 hc2 hc3 hc4 hw3 h3 hv3 hne
  go_wp2_with fail
  refine block_region (by kernel_rfl) H3.out.1.blk hl1 (spl_lt zb_lt H0.out.2.1) H3.out.2 (by omega) rfl rfl ?_
  intro w4 vs hvs hB4 hO4
  obtain ⟨x0, x1, x2, x3, x4, x5, rfl⟩ := list6 hvs
  have h4 := H3.out.1.set hO4 hB4
  rw [seal_eq hbl] at h4
  have hl4 : (sealed body).length = 64 := by unfold sealed; simp [be_len]; omega
  obtain ⟨sb, hsb⟩ : ∃ sb, sealed body = sb := ⟨_, rfl⟩
  rw [hsb] at h4 hl4
  have HSB := hide hsb
  have H4 := hide h4
  clear h4 hB4 hO4 hvs hsb
  rename_i hK
  refine hK _ _ ?_
  clear hK
  simp only [Act.putFrom, Act.put, List.setIfInBounds_toArray, List.set_cons_succ, List.set_cons_zero]
  go_wp2_with (first | (refine bl_load rfl (.tmp 3) rfl (w.heap.size + 1) sb rfl H4.out.blk hl4 ?_) | (refine bl_store rfl (.tmp 2) (.tmp 19) rfl w.heap.size sb zb rfl rfl H4.out.res zb_len hl4 ?_))
  have h5 := H4.out.res.setRow sb
  refine bodyPost_ret (v := .agg (blkA sb)) (results_cell_row Tryz.results77 _ _ w.heap.size 157 (blkA sb) (0, 0) _ rfl h5 Tryz.underlying157 rfl (blkA_info hl4)) rfl ?_
  exact ⟨by rw [HSB.out], H4.out.below.trans ⟨rfl, rfl, rfl, by simp [World.setRow], fun k hk => (grown_setRow' _ _ _).block k (by have := H4.out.res.lt; omega) (fun e => by cases e; omega)⟩⟩
set_option maxRecDepth 100000 in
set_option maxHeartbeats 2000000 in
theorem block_shard (l : List Nat) (w : World) (hok : (Rec.shard l).ok) (hv : hvLaid w) :
    Calls Tryz.prog 77 #[recV (.shard l)] w fun e w' => e = .returned (.agg (blkA (Rec.shard l).blk)) ∧ Below w.heap.size w w' := by
  have hz := zeroBlk
  have hszz : (blkA zb).size = 64 := by rw [blkA_size, zb_len]
  have h0 := Two.new w
  obtain ⟨w1, hw1⟩ : ∃ w1, (w.alloc (.cells (blkA zb) 157)).alloc (.cells (blkA zb) 157) = w1 := ⟨_, rfl⟩
  rw [hw1] at h0
  have hbl := body_len hok
  have hbx := body_lt hok
  have hblk : (Rec.shard l).blk = sealed (Rec.shard l).body := by unfold Rec.blk; rw [if_neg (by simp [Rec.body])]
  have hb20 : 0 < (Rec.shard l).body.length := by simp [Rec.body]
  have hcall := shard_body l w1 hok
  rw [hblk]
  obtain ⟨body, hbody⟩ : ∃ body, (Rec.shard l).body = body := ⟨_, rfl⟩
  rw [hbody] at hbl hbx hb20 hcall ⊢
  have H0 := hide (And.intro h0 (And.intro hbx hv))
  unfold recV
  obtain ⟨ra, hra⟩ : ∃ ra, (bts l).toArray = ra := ⟨_, rfl⟩
  simp only [hra] at hcall ⊢
  clear h0 hbx hv hok hblk hra hbody
  go_enter Tryz.func77, Tryz.ntmps77
  go_wp2_with fail
  refine hcall.mono ?_
  clear hcall
  rintro e w2 ⟨v, rfl, hS, hb2⟩
  have h2 := H0.out.1.mono hb2
  obtain ⟨ao, c, rfl, hc1, hc2, hc3, hc4⟩ := id hS
  have hpos : (0 : Int) < ((body.length : Nat) : Int) := by omega
  have hne : body ≠ [] := by intro e; rw [e] at hb20; simp at hb20
  have hcp := blk_copy (n := 60) (cap := 60) (off := 4) 3 h2.blk hS hne (by omega) (by rw [zb_len]; omega)
  have h3 : Two w (w2.setRow (w.heap.size + 1) (blkA (spl zb 4 body))) w.heap.size (w.heap.size + 1) (spl zb 4 body) := h2.set (Outside.setRow (S := fun k => k = w.heap.size + 1) _ _ _ rfl) (h2.blk.setRow _)
  obtain ⟨w3, hw3⟩ : ∃ w3, w2.setRow (w.heap.size + 1) (blkA (spl zb 4 body)) = w3 := ⟨_, rfl⟩
  rw [hw3] at hcp h3
  have hl1 : (spl zb 4 body).length = 64 := by rw [spl_len (by rw [zb_len]; omega), zb_len]
  have hG := H0.out.2.2.lt
  have hv3 : hvLaid w3 := H0.out.2.2.below h3.below hG
  have H3 := hide (And.intro h3 hv3)
  clear h2 hS hb2 hc1 hc2 hc3 hc4 hw3 h3 hv3 hne
  go_wp2_with fail
  refine block_region (by kernel_rfl) H3.out.1.blk hl1 (spl_lt zb_lt H0.out.2.1) H3.out.2 (by omega) rfl rfl ?_
  intro w4 vs hvs hB4 hO4
  obtain ⟨x0, x1, x2, x3, x4, x5, rfl⟩ := list6 hvs
  have h4 := H3.out.1.set hO4 hB4
  rw [seal_eq hbl] at h4
  have hl4 : (sealed body).length = 64 := by unfold sealed; simp [be_len]; omega
  obtain ⟨sb, hsb⟩ : ∃ sb, sealed body = sb := ⟨_, rfl⟩
  rw [hsb] at h4 hl4
  have HSB := hide hsb
  have H4 := hide h4
  clear h4 hB4 hO4 hvs hsb
  rename_i hK
  refine hK _ _ ?_
  clear hK
  simp only [Act.putFrom, Act.put, List.setIfInBounds_toArray, List.set_cons_succ, List.set_cons_zero]
  go_wp2_with (first | (refine bl_load rfl (.tmp 3) rfl (w.heap.size + 1) sb rfl H4.out.blk hl4 ?_) | (refine bl_store rfl (.tmp 2) (.tmp 19) rfl w.heap.size sb zb rfl rfl H4.out.res zb_len hl4 ?_))
  have h5 := H4.out.res.setRow sb
  refine bodyPost_ret (v := .agg (blkA sb)) (results_cell_row Tryz.results77 _ _ w.heap.size 157 (blkA sb) (0, 0) _ rfl h5 Tryz.underlying157 rfl (blkA_info hl4)) rfl ?_
  exact ⟨by rw [HSB.out], H4.out.below.trans ⟨rfl, rfl, rfl, by simp [World.setRow], fun k hk => (grown_setRow' _ _ _).block k (by have := H4.out.res.lt; omega) (fun e => by cases e; omega)⟩⟩
theorem makes_filled : Makes .filled := fun w hv => block_filled w hv
theorem makes_shard {l : List Nat} (hok : (Rec.shard l).ok) : Makes (.shard l) := fun w hv => block_shard l w hok hv
end Go.Proofs.YtogdeaaphdlchaaGreatDoor
