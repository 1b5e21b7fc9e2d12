import Derived.Test.YtpaemkanfnddoaaGreatDoorM06
import Derived.ChangeKeysEq
import Derived.Laws.StructEq
set_option maxRecDepth 100000
set_option maxHeartbeats 8000000
namespace Go.Proofs.YtpaemkanfnddoaaGreatDoor
open Go.RowKit Go.Deep
variable {a : Act} {ops : Array Oper} {Q : Exit → Act → World → Prop} {l src s : List Nat} {vs : List Value} {r b off n : Nat} {w0 w w' : World}
theorem list6 (h : vs.length = 6) : ∃ x0 x1 x2 x3 x4 x5, vs = [x0, x1, x2, x3, x4, x5] := by
 match vs, h with
 | [x0, x1, x2, x3, x4, x5], _ => exact ⟨_, _, _, _, _, _, rfl⟩
structure Two (w0 w : World) (r b : Nat) (l : List Nat) : Prop where
 res : BlkAt w r zb
 blk : BlkAt w b l
 below : Below w0.heap.size w0 w
 rs : r = w0.heap.size
 bs : b = w0.heap.size + 1
theorem Two.new (w : World) : Two w ((w.alloc (.cells (blkA zb) 240)).alloc (.cells (blkA zb) 240)) w.heap.size (w.heap.size + 1) zb := by
 refine ⟨(blk_alloc_lt _ _ _ (by simp)).trans (blk_alloc_new _ _), ?_, ((Below.refl _ w).alloc (Nat.le_refl _) _).alloc (by simp) _, rfl, rfl⟩
 have := blk_alloc_new (w.alloc (.cells (blkA zb) 240)) (.cells (blkA zb) 240)
 simpa [BlkAt] using this
theorem Two.mono (h : Two w0 w r b l) (hb : Below w.heap.size w w') : Two w0 w' r b l :=
 ⟨h.res.keep (hb.block _ h.res.lt), h.blk.keep (hb.block _ h.blk.lt), h.below.trans (hb.mono (by have := h.res.lt; have := h.rs; omega)), h.rs, h.bs⟩
theorem Two.set {l' : List Nat} (h : Two w0 w r b l) (hO : Outside (fun k => k = b) w w') (hb : BlkAt w' b l') : Two w0 w' r b l' :=
 ⟨h.res.keep (hO.block _ h.res.lt (fun e => by have := h.rs; have := h.bs; omega)), hb, h.below.trans (hO.below fun k hk => ⟨by have := h.blk.lt; have := h.bs; omega, fun e => by have := h.bs; omega⟩), h.rs, h.bs⟩
theorem hvLaid.below {B : Nat} (h : hvLaid w) (hb : Below B w w') (hB : 2 < B) : hvLaid w' := fun j hj => (hb.cell (p := ⟨2, j, none⟩) hB).trans (h j hj)
theorem hvLaid.lt (h : hvLaid w) : 2 < w.heap.size := block_lt_of_cell (h 0 (by decide))
theorem seal_eq {body : List Nat} (hb : body.length ≤ 60) : spl (spl zb 4 body) 0 (be (crc ((spl zb 4 body).drop 4)) 4) = sealed body := by
 have e1 : (spl zb 4 body).drop 4 = body ++ List.replicate (60 - body.length) 0 := by
  unfold spl
  rw [List.drop_append_of_le_length (by simp [zb]), show (List.take 4 zb).drop 4 = [] by simp [zb]]
  simp only [List.nil_append]
  congr 1
  unfold zb
  rw [List.drop_replicate]
  congr 1
  omega
 have e2 : ∀ (X s : List Nat), spl X 0 s = s ++ X.drop s.length := fun X s => by unfold spl; rw [List.take_zero, List.nil_append, Nat.zero_add]
 rw [e2, be_len, e1]
 rfl
theorem spl_lt (h1 : ∀ x ∈ l, x < 256) (h2 : ∀ x ∈ src, x < 256) : ∀ x ∈ spl l off src, x < 256 := by
 intro x hx
 unfold spl at hx
 simp only [List.mem_append] at hx
 rcases hx with h | h | h
 · exact h1 x (List.mem_of_mem_take h)
 · exact h2 x h
 · exact h1 x (List.mem_of_mem_drop h)
theorem zb_lt : ∀ x ∈ zb, x < 256 := fun x hx => by have := List.eq_of_mem_replicate hx; omega
theorem block_blank (w : World) : Calls Tryz.prog 140 #[recV .blank] w fun e w' => e = .returned (.agg (blkA Rec.blank.blk)) ∧ Below w.heap.size w w' := by
 have hz := zeroBlk
 have h4 : (blkA zb).size = 64 := by rw [blkA_size, zb_len]
 have h0 := Two.new w
 obtain ⟨w1, h5⟩ : ∃ w1, (w.alloc (.cells (blkA zb) 240)).alloc (.cells (blkA zb) 240) = w1 := ⟨_, rfl⟩
 rw [h5] at h0
 have H0 := hide h0
 clear h0
 unfold recV
 go_enter Tryz.func140, Tryz.ntmps140
 go_wp2_with fail
 refine (blank_body w1).mono ?_
 rintro e w2 ⟨rfl, h1⟩
 have h2 := H0.out.mono h1
 have H2 := hide h2
 clear h2 h1 H0
 go_wp2_with (first | (refine bl_load rfl (.tmp 3) rfl (w.heap.size + 1) zb rfl H2.out.blk zb_len ?_) | (refine bl_store rfl (.tmp 2) (.tmp 19) rfl w.heap.size zb zb rfl rfl H2.out.res zb_len zb_len ?_))
 have h3 := H2.out.res.setRow zb
 refine bodyPost_ret (v := .agg (blkA zb)) (results_cell_row Tryz.results140 _ _ w.heap.size 240 (blkA zb) (0, 0) _ rfl h3 Tryz.underlying240 rfl (blkA_info zb_len)) rfl ?_
 exact ⟨rfl, H2.out.below.trans ⟨rfl, rfl, rfl, by simp [World.setRow], fun k hk => (grown_setRow' _ _ _).block k (by have := H2.out.res.lt; omega) (fun e => by cases e; omega)⟩⟩
theorem block_root (D L G t f n : Nat) (w : World) (h9 : (Rec.root D L G t f n).ok) (hv : hvLaid w) :
 Calls Tryz.prog 140 #[recV (.root D L G t f n)] w fun e w' => e = .returned (.agg (blkA (Rec.root D L G t f n).blk)) ∧ Below w.heap.size w w' := by
 have hz := zeroBlk
 have hq : (blkA zb).size = 64 := by rw [blkA_size, zb_len]
 have h0 := Two.new w
 obtain ⟨w1, hr⟩ : ∃ w1, (w.alloc (.cells (blkA zb) 240)).alloc (.cells (blkA zb) 240) = w1 := ⟨_, rfl⟩
 rw [hr] at h0
 have hf := body_len h9
 have hc := body_lt h9
 have h8 : (Rec.root D L G t f n).blk = sealed (Rec.root D L G t f n).body := by unfold Rec.blk; rw [if_neg (by simp [Rec.body])]
 have h7 : 0 < (Rec.root D L G t f n).body.length := by simp [Rec.body]
 have h1 := root_body D L G t f n w1 h9
 rw [h8]
 obtain ⟨body, h6⟩ : ∃ body, (Rec.root D L G t f n).body = body := ⟨_, rfl⟩
 rw [h6] at hf hc h7 h1 ⊢
 have H0 := hide3 h0 hc hv
 unfold recV
 obtain ⟨ra, hg⟩ : ∃ ra, rootA D L G t f n = ra := ⟨_, rfl⟩
 simp only [hg] at h1 ⊢
 clear h0 hc hv h9 h8 hg h6
 go_enter Tryz.func140, Tryz.ntmps140
 go_wp2_with fail
 refine h1.mono ?_
 clear h1
 rintro e w2 ⟨v, rfl, hS, hh⟩
 have h2 := H0.out.1.mono hh
 obtain ⟨ao, c, rfl, hs, hx, hy, k0⟩ := id hS
 have k5 : (0 : Int) < ((body.length : Nat) : Int) := by omega
 have hi : body ≠ [] := by intro e; rw [e] at h7; simp at h7
 have k6 := blk_copy (n := 60) (cap := 60) (off := 4) 3 h2.blk hS hi (by omega) (by rw [zb_len]; omega)
 have h3 : Two w (w2.setRow (w.heap.size + 1) (blkA (spl zb 4 body))) w.heap.size (w.heap.size + 1) (spl zb 4 body) := h2.set (Outside.setRow (S := fun k => k = w.heap.size + 1) _ _ _ rfl) (h2.blk.setRow _)
 obtain ⟨w3, hj⟩ : ∃ w3, w2.setRow (w.heap.size + 1) (blkA (spl zb 4 body)) = w3 := ⟨_, rfl⟩
 rw [hj] at k6 h3
 have k7 : (spl zb 4 body).length = 64 := by rw [spl_len (by rw [zb_len]; omega), zb_len]
 have hG := H0.out.2.2.lt
 have hv3 : hvLaid w3 := H0.out.2.2.below h3.below hG
 have H3 := hide2 h3 hv3
 clear h2 hS hh hs hx hy k0 hj h3 hv3 hi
 go_wp2_with fail
 refine block_region (by kernel_rfl) H3.out.1.blk k7 (spl_lt zb_lt H0.out.2.1) H3.out.2 (by omega) rfl rfl ?_
 intro w4 vs hm hn hp
 obtain ⟨x0, x1, x2, x3, x4, x5, rfl⟩ := list6 hm
 have h4 := H3.out.1.set hp hn
 rw [seal_eq hf] at h4
 have ha : (sealed body).length = 64 := by unfold sealed; simp [be_len]; omega
 obtain ⟨sb, he⟩ : ∃ sb, sealed body = sb := ⟨_, rfl⟩
 rw [he] at h4 ha
 have k8 := hide he
 have H4 := hide h4
 clear h4 hn hp hm he
 rename_i hK
 refine hK _ _ ?_
 clear hK
 simp only [Act.putFrom, Act.put, List.setIfInBounds_toArray, List.set_cons_succ, List.set_cons_zero]
 go_wp2_with (first | (refine bl_load rfl (.tmp 3) rfl (w.heap.size + 1) sb rfl H4.out.blk ha ?_) | (refine bl_store rfl (.tmp 2) (.tmp 19) rfl w.heap.size sb zb rfl rfl H4.out.res zb_len ha ?_))
 have h5 := H4.out.res.setRow sb
 refine bodyPost_ret (v := .agg (blkA sb)) (results_cell_row Tryz.results140 _ _ w.heap.size 240 (blkA sb) (0, 0) _ rfl h5 Tryz.underlying240 rfl (blkA_info ha)) rfl ?_
 exact ⟨by rw [k8.out], H4.out.below.trans ⟨rfl, rfl, rfl, by simp [World.setRow], fun k hk => (grown_setRow' _ _ _).block k (by have := H4.out.res.lt; omega) (fun e => by cases e; omega)⟩⟩
def Makes (r : Rec) : Prop := ∀ w, hvLaid w → Calls Tryz.prog 140 #[recV r] w fun e w' => e = .returned (.agg (blkA r.blk)) ∧ Below w.heap.size w w'
theorem makes_blank : Makes .blank := fun w _ => block_blank w
theorem makes_root {D L G t f : Nat} (h0 : (Rec.root D L G t f n).ok) : Makes (.root D L G t f n) := fun w hv => block_root D L G t f n w h0 hv
noncomputable def ROf : Array Oper := ((Tryz.f143.body.bind (rgf · 2))).getD #[]
def shOf : List (Op × Option Nat × List Nat) := [(Op.move (.tmp 4), some 7, []),
 (Op.call { callee := Callee.value (Operand.func 140), args := #[.tmp 7], argTypes := #[202] }, some 8, [0]),
 (Op.load 240 (.tmp 1), some 9, []),
 (Op.binOp BinOp.neq 240 (.tmp 8) (.tmp 9) 240, some 10, [1, 2])]
theorem ROf_shape : RegShape ROf 7 11 shOf := regShape (by kernel_rfl) (by kernel_rfl)
theorem Tryz.cellsByte1 : Tryz.prog.cellsOf 5 = 1 := by kernel_rfl
theorem part_byte (l : List Nat) (i : Nat) (hi : i < l.length) (w : World) : (part 5 (blkA l) (i * 1)).run Tryz.prog w = .ok (.int .u8 ((l.getD i 0 : Nat) : Int)) w := by
 have hg : (blkA l)[i]? = some (.int .u8 ((l.getD i 0 : Nat) : Int)) := by
  unfold blkA bts
  rw [List.getElem?_toArray, List.getElem?_map, List.getElem?_eq_getElem hi, List.getD_eq_getElem?_getD, List.getElem?_eq_getElem hi]; rfl
 rw [Nat.mul_one]
 have hu := Tryz.underlying5
 simp [part, isAgg, run_underlying hu, hg]
theorem eq_bytes (d : Nat) (l1 l2 : List Nat) (w : World) : ∀ (is : List Nat), (∀ i ∈ is, i < l1.length ∧ i < l2.length) → (Op.eqItems (d + 1) 5 1 (blkA l1) (blkA l2) is).run Tryz.prog w = .ok (is.all fun i => l1.getD i 0 == l2.getD i 0) w
 | [], _ => by simp [Op.eqItems]
 | i :: is, h => by
  obtain ⟨h1, h2⟩ := h i (by simp)
  have ih := eq_bytes d l1 l2 w is (fun j hj => h j (by simp [hj]))
  have he := run_equalIn_int (P := Tryz.prog) (w := w) d 5 .u8 .u8 ((l1.getD i 0 : Nat) : Int) ((l2.getD i 0 : Nat) : Int) Tryz.underlying5
  simp only [Op.eqItems, Sem.run_bind, part_byte l1 i h1 w, part_byte l2 i h2 w, Result.andThen_ok, he, List.all_cons]
  generalize l1.getD i 0 = x
  generalize l2.getD i 0 = y
  by_cases e : x = y
  · subst e
    rw [if_neg (by simp), ih]
    simp
  · have e2 : ¬ ((x : Nat) : Int) = ((y : Nat) : Int) := fun q => e (by omega)
    have e3 : ((x : Int) == (y : Int)) = false := by simpa using e2
    have e4 : (x == y) = false := by simpa using e
    rw [e3, e4]
    simp
theorem all_same {l1 l2 : List Nat} (h1 : l1.length = 64) (h2 : l2.length = 64) : ((List.range 64).all fun i => l1.getD i 0 == l2.getD i 0) = decide (l1 = l2) := by
 rw [Bool.eq_iff_iff, List.all_eq_true, decide_eq_true_eq]
 constructor
 · intro h
   refine List.ext_getElem (by omega) fun i a1 a2 => ?_
   have := h i (List.mem_range.2 (by omega))
   simpa [a1, a2] using this
 · rintro rfl i _
   simp
theorem eq_blk (l1 l2 : List Nat) (h1 : l1.length = 64) (h2 : l2.length = 64) (w : World) : (Op.equalIn 10000 240 (.agg (blkA l1)) (.agg (blkA l2))).run Tryz.prog w = .ok (decide (l1 = l2)) w := by
 obtain ⟨i0, h0, _⟩ := info_parts Tryz.infoByte
 rw [show (10000 : Nat) = 9998 + 1 + 1 from rfl, run_equalIn_array w (9998 + 1) (t := 240) (e := 5) (n := 64) (blkA l1) (blkA l2) Tryz.underlying240 h0, Tryz.cellsByte1, eq_bytes 9998 l1 l2 w _ (fun i hi => by have := List.mem_range.1 hi; omega), all_same h1 h2]
theorem of_region {r : Rec} (h3 : ROf = ops) (hm : Makes r) (hr : r.ok) (hB : BlkAt w b l) (hl : l.length = 64) (hv : hvLaid w) (h8 : a.tmps.size = 12)
 (e1 : a.eval (.tmp 1) = .pointer (some ⟨b, 0, none⟩)) (e4 : a.eval (.tmp 4) = recV r) (hQ : ∀ (w' : World), Below w.heap.size w w' → Q .normal (Act.putFrom a 7 [recV r, .agg (blkA r.blk), .agg (blkA l), .bool (!decide (r.blk = l))]) w') : (Code.region 2 ops true).wp Tryz.prog Q a w := by
 subst h3
 refine region_facts (by kernel_rfl) ROf_shape a w (by omega) (fun i v _ => v = [recV r, .agg (blkA r.blk), .agg (blkA l), .bool (!decide (r.blk = l))].getD i undef) (fun _ w' => BlkAt w' b l ∧ Below w.heap.size w w') ⟨hB, (Below.refl _ w).drew⟩ ?_ ?_
 · intro i hi
   match i, hi with
   | 0, _ => exact fun o a' w' D hg ho h0 hk h4 h5 h1 hB hV => op_val (run_op_move ho ((hk.slot 4 (by omega)).trans e4) w') h0 ⟨hB, rfl, kq⟩
   | 1, _ =>
    intro o a' w' D hg ho h0 hk h4 h5 h1 h2 hV
    have u0 : a'.eval (.tmp 7) = recV r := hV 0 (h1 0 (by decide))
    refine op_call (f := 140) (args := #[recV r]) (w1 := w') (by simp only [execOp, show o.op = Op.call { callee := Callee.value (Operand.func 140), args := #[.tmp 7], argTypes := #[202] } from ho]; go_simp; simpa [Act.eval] using u0) h0 (hm w' (hv.below h2.2 hv.lt)) ?_
    rintro e w'' ⟨rfl, hb⟩
    exact ⟨_, rfl, ⟨h2.1.keep (hb.block _ h2.1.lt), h2.2.trans (hb.mono h2.2.size)⟩, rfl, kq⟩
   | 2, _ =>
    intro o a' w' D hg ho h0 hk h4 h5 h1 h2 hV
    have u0 : a'.eval (.tmp 1) = .pointer (some ⟨b, 0, none⟩) := (hk.slot 1 (by omega)).trans e1
    exact op_val (v := .agg (blkA l)) (by simp [execOp, show o.op = Op.load 240 (.tmp 1) from ho, u0, blk_loadAt h2.1 hl]) h0 ⟨h2, rfl, kq⟩
   | 3, _ =>
    intro o a' w' D hg ho h0 hk h4 h5 h1 h2 hV
    have u0 : a'.eval (.tmp 8) = .agg (blkA r.blk) := hV 1 (h1 1 (by decide))
    have u1 : a'.eval (.tmp 9) = .agg (blkA l) := hV 2 (h1 2 (by decide))
    exact op_val (v := .bool (!decide (r.blk = l))) (by simp only [execOp, show o.op = Op.binOp BinOp.neq 240 (.tmp 8) (.tmp 9) 240 from ho, u0, u1]; go_simp; rw [eq_blk r.blk l (blk_len hr) hl w']; rfl) h0 ⟨h2, rfl, kq⟩
   | n + 4, hn => exact absurd hn (by show ¬ n + 4 < 4; omega)
 · rintro a' w' h6 ⟨D, hD, h2⟩ hV
   have h7 : ∀ i : Nat, i < 4 → a'.eval (.tmp (7 + i)) = [recV r, .agg (blkA r.blk), .agg (blkA l), .bool (!decide (r.blk = l))].getD i undef := by
    intro i hi
    match i, hi with
    | 0, _ => exact hV 0 (by decide)
    | 1, _ => exact hV 1 (by decide)
    | 2, _ => exact hV 2 (by decide)
    | 3, _ => exact hV 3 (by decide)
    | n + 4, hn => exact absurd hn (by show ¬ n + 4 < 4; omega)
   rw [h6.out [recV r, .agg (blkA r.blk), .agg (blkA l), .bool (!decide (r.blk = l))] rfl (by omega) h7]
   exact hQ w' h2.2
theorem of_ok (r : Rec) (w : World) (hm : Makes r) (hr : r.ok) (hv : hvLaid w) :
 Calls Tryz.prog 143 #[.agg (blkA r.blk)] w fun e w' => e = .returned (.tuple #[recV r, .bool true]) ∧ Below w.heap.size w w' := by
 have hl := blk_len hr
 have hx := blk_lt hr
 have hp := prs_blk hr
 have hb := BlkAt.new w r.blk
 have h2 : Below w.heap.size w (w.alloc (.cells (blkA r.blk) 240)) := (Below.refl _ w).alloc (Nat.le_refl _) _
 have h3 : (blkA r.blk).size = 64 := by rw [blkA_size, hl]
 obtain ⟨w1, h7⟩ : ∃ w1, w.alloc (.cells (blkA r.blk) 240) = w1 := ⟨_, rfl⟩
 rw [h7] at hb h2
 have hc := parse_any r.blk w1 hl hx
 rw [hp] at hc
 obtain ⟨rv, h4⟩ : ∃ rv, recV r = rv := ⟨_, rfl⟩
 obtain ⟨l, h5⟩ : ∃ l, r.blk = l := ⟨_, rfl⟩
 rw [h5] at hl hx hb h3 hc h7 ⊢
 rw [h4] at hc ⊢
 have HR := hide2 h4 h5
 have H1 := hide2 hb h2
 clear hx hp hb h2 h4 h5
 go_enter Tryz.func143, Tryz.ntmps143
 go_wp2_with (refine bl_load rfl (.tmp 1) rfl w.heap.size l rfl H1.out.1 hl ?_)
 refine hc.mono ?_
 rintro e w2 ⟨rfl, h6⟩
 have h8 := H1.out.1.keep (h6.block _ H1.out.1.lt)
 have h0 := H1.out.2.trans (h6.mono H1.out.2.size)
 have H2 := hide2 h8 h0
 clear hc h6 h8 h0
 go_wp2_with fail
 refine of_region (by kernel_rfl) hm hr H2.out.1 hl (hv.below H2.out.2 hv.lt) rfl rfl HR.out.1.symm ?_
 intro w3 h9
 rw [HR.out.1, HR.out.2, decide_eq_true (rfl : l = l)]
 have h1 := H2.out.2.trans (h9.mono H2.out.2.size)
 have H3 := hide h1
 clear h9 h1
 rename_i hK
 refine hK _ _ ?_
 clear hK
 simp only [Act.putFrom, Act.put, List.setIfInBounds_toArray, List.set_cons_succ, List.set_cons_zero]
 go_wp2
 go_ret2
 exact ⟨rfl, H3.out⟩
theorem Brow.heapB (h : Brow w b l) : w.heap[b]? = some (.cells (bts l).toArray 5 (0, 0)) := by
 obtain ⟨c, hc, hs, hg⟩ := h
 have e : c = (bts l).toArray := by
  apply Array.ext_getElem?
  intro i
  by_cases hi : i < l.length
  · rw [hg i hi]
    unfold vb bts
    simp [List.getD_eq_getElem?_getD, List.getElem?_eq_getElem hi]
  · rw [Array.getElem?_eq_none (by omega), Array.getElem?_eq_none (by rw [List.size_toArray, bts_len]; omega)]
 rw [← e]; exact hc
theorem Brow.of_heapB (h : w.heap[b]? = some (.cells (bts l).toArray 5 (0, 0))) : Brow w b l :=
 ⟨_, h, by rw [List.size_toArray, bts_len], fun i hi => by
  unfold vb bts
  simp [List.getD_eq_getElem?_getD, List.getElem?_eq_getElem hi]⟩
theorem row_copy {cap : Nat} {v : Value} (ty : TypeId) (hB : Brow w b l) (hS : Bs w v src) (hn : src.length ≤ n) (hf : off + src.length ≤ l.length) :
 ∃ w', (Builtin.copy_ #[31, 31] ty #[.slice (some ⟨b, off, none⟩) n cap, v]).run Tryz.prog w = .ok (.int .i64 (src.length : Nat)) w' ∧ Brow w' b (spl l off src) ∧ w.grownBy w' (some b) := by
 obtain ⟨ao, c, rfl, h1, h2, h3, h4⟩ := hS
 have h7 : (Tryz.prog.info? 5).map (fun i => i.size) = some 1 := by kernel_rfl
 by_cases h0 : src = []
 · subst h0
   refine ⟨w, run_copy_none (P := Tryz.prog) w 31 31 ty 5 (some ⟨b, off, none⟩) ao n cap 0 c Tryz.underlying31 h7 (by simp), ?_, World.grownBy.refl _ _⟩
   have e : spl l off [] = l := by unfold spl; simp
   rw [e]; exact hB
 · obtain ⟨g, o, rfl, hc⟩ := h4 h0
   have h5 := run_copy_row (P := Tryz.prog) w 31 31 ty 5 b off n cap ⟨g, o, none⟩ src.length c (bts l).toArray 5 (bts src) Tryz.underlying31 h7 hB.heapB (by rw [bts_len]; exact (Nat.min_eq_left hn).symm) (fun j u hj => by
    have h6 : j < src.length := by obtain ⟨q, _⟩ := List.getElem?_eq_some_iff.1 hj; rwa [bts_len] at q
    rw [Addr.add_mid, hc j h6, ← hj]
    unfold bts
    rw [List.getElem?_map, List.getElem?_eq_getElem h6, List.getD_eq_getElem?_getD, List.getElem?_eq_getElem h6]; rfl) (by rw [bts_len, List.size_toArray, bts_len]; exact hf) (fun u hu => by
    unfold bts at hu; rw [List.mem_map] at hu; obtain ⟨x, _, rfl⟩ := hu; rfl)
   have e : (List.take off (bts l) ++ bts src ++ List.drop (off + (bts src).length) (bts l)).toArray = (bts (spl l off src)).toArray := by
    rw [bts_len]
    unfold spl
    rw [bts_append, bts_append, List.append_assoc]
    unfold bts
    rw [List.map_take, List.map_drop]
   refine ⟨w.setRow b (bts (spl l off src)).toArray, ?_, Brow.of_heapB (setRow_heap w b (bts l).toArray (bts (spl l off src)).toArray _ _ hB.heapB), grown_setRow' _ _ _⟩
   rw [h5]
   simp only [List.append_assoc] at e ⊢
   rw [e, bts_len]
   rfl
theorem owns_lit1 (w : World) (a : Nat) : (w.alloc (.cells #[.int .u8 (a : Int)] 5)).ownsRow w.heap.size 5 1 (.slice (some ⟨w.heap.size, 0, none⟩) 1 1) 1 (bts [a]) :=
 ⟨rfl, .inr ⟨w.heap.size, 1, _, rfl, Nat.le_refl _, blk_alloc_new _ _, Nat.le_refl _, by unfold maxLen; omega, rfl, rfl⟩⟩
theorem filled_body (w : World) : Calls Tryz.prog 246 #[.agg #[]] w fun e w' => ∃ v, e = .returned v ∧ Bs w' v Rec.filled.body ∧ Below w.heap.size w w' := by
 have ho := owns_lit1 (w.alloc (.cells #[] 159)) 2
 have hb : Below w.heap.size w ((w.alloc (.cells #[] 159)).alloc (.cells #[.int .u8 ((2 : Nat) : Int)] 5)) := ((Below.refl _ w).alloc (Nat.le_refl _) _).alloc (by simp) _
 have H := hide2 ho hb
 clear ho hb
 go_enter Tryz.func246, Tryz.ntmps246
 go_wp2
 go_ret
 have hs := Bs.of_owns H.out.1 (fun x hx => by simp at hx; omega) (by decide)
 simp only [World.size_alloc] at hs
 exact ⟨_, rfl, hs, H.out.2⟩
noncomputable def RSb : Array Oper := ((Tryz.f247.body.bind (rgf · 3))).getD #[]
def shSb : List (Op × Option Nat × List Nat) := [(Op.move (.tmp 3), some 7, []),
 (Op.slice 31 (.tmp 7) (some (Operand.const (Value.int IntKind.i64 16))) none none, some 8, [0]),
 (Op.fieldAddr 200 (.tmp 1) 0, some 9, []),
 (Op.slice 198 (.tmp 9) none none none, some 10, [2]),
 (Op.call { callee := Callee.builtin Builtin.copy, args := #[.tmp 8, .tmp 10], argTypes := #[31, 31] }, some 11, [1, 3])]
theorem RSb_shape : RegShape RSb 7 12 shSb := regShape (by kernel_rfl) (by kernel_rfl)
def VSb (b q : Nat) (i : Nat) (u : Value) (_ : World) : Prop := match i with
 | 0 => u = .slice (some ⟨b, 0, none⟩) 60 60
 | 1 => u = .slice (some ⟨b, 16, none⟩) 44 44
 | 2 => u = .pointer (some ⟨q, 0, none⟩)
 | 3 => u = .slice (some ⟨q, 0, none⟩) 44 44
 | _ => True
def BSb (w0 : World) (b : Nat) (l s : List Nat) (D : Nat → Bool) (w : World) : Prop := Brow w b (if D 4 = true then spl l 16 s else l) ∧ Outside (fun k => k = b) w0 w
theorem BSb_upd {D : Nat → Bool} (h : BSb w0 b l s D w) (i : Nat) (hi : i ≠ 4) : BSb w0 b l s (upd D i) w := by
 refine ⟨?_, h.2⟩
 unfold upd
 rw [if_neg (fun e : 4 = i => hi e.symm)]
 exact h.1
theorem shard_region {q : Nat} (h4 : RSb = ops) (hB : Brow w b l) (hl : l.length = 60) (hq : w.heap[q]? = some (.cells (bts s).toArray 200 (0, 0))) (hs : s.length = 44) (hx : ∀ x ∈ s, x < 256) (h8 : q ≠ b) (hp : a.tmps.size = 13)
 (e3 : a.eval (.tmp 3) = .slice (some ⟨b, 0, none⟩) 60 60) (e1 : a.eval (.tmp 1) = .pointer (some ⟨q, 0, none⟩)) (hQ : ∀ (w' : World) (vs : List Value), vs.length = 5 → Brow w' b (spl l 16 s) → Outside (fun k => k = b) w w' → Q .normal (Act.putFrom a 7 vs) w') : (Code.region 3 ops true).wp Tryz.prog Q a w := by
 subst h4
 refine region_facts (by kernel_rfl) RSb_shape a w (by omega) (VSb b q) (BSb w b l s) ⟨hB, Outside.drew w⟩ ?_ ?_
 · intro i hi
   match i, hi with
   | 0, _ => exact fun o a' w' Dn hg ho h0 hk h2 h5 h1 hB hV => op_val (run_op_move ho ((hk.slot 3 (by omega)).trans e3) w') h0 ⟨BSb_upd hB _ (by decide), rfl, kq⟩
   | 1, _ =>
    intro o a' w' D hg ho h0 hk h2 h5 h1 hB hV
    have u0 : a'.eval (.tmp 7) = .slice (some ⟨b, 0, none⟩) 60 60 := hV 0 (h1 0 (by decide))
    exact op_val (v := .slice (some ⟨b, 16, none⟩) 44 44) (by simp only [execOp, show o.op = Op.slice 31 (.tmp 7) (some (Operand.const (Value.int IntKind.i64 16))) none none from ho, u0]; go_simp) h0 ⟨BSb_upd hB 1 (by decide), rfl, kq⟩
   | 2, _ =>
    intro o a' w' D hg ho h0 hk h2 h5 h1 hB hV
    have u0 : a'.eval (.tmp 1) = .pointer (some ⟨q, 0, none⟩) := (hk.slot 1 (by omega)).trans e1
    exact op_val (v := .pointer (some ⟨q, 0, none⟩)) (by simp only [execOp, show o.op = Op.fieldAddr 200 (.tmp 1) 0 from ho, u0]; go_simp) h0 ⟨BSb_upd hB 2 (by decide), rfl, kq⟩
   | 3, _ =>
    intro o a' w' D hg ho h0 hk h2 h5 h1 hB hV
    have u0 : a'.eval (.tmp 9) = .pointer (some ⟨q, 0, none⟩) := hV 2 (h1 2 (by decide))
    exact op_val (v := .slice (some ⟨q, 0, none⟩) 44 44) (by simp only [execOp, show o.op = Op.slice 198 (.tmp 9) none none none from ho, u0]; go_simp) h0 ⟨BSb_upd hB 3 (by decide), rfl, kq⟩
   | 4, _ =>
    intro o a' w' D hg ho h0 hk h2 h9 h1 hB hV
    have u0 : a'.eval (.tmp 8) = .slice (some ⟨b, 16, none⟩) 44 44 := hV 1 (h1 1 (by decide))
    have u1 : a'.eval (.tmp 10) = .slice (some ⟨q, 0, none⟩) 44 44 := hV 3 (h1 3 (by decide))
    have ha : Brow w' b l := by have := hB.1; rw [if_neg (by rw [h2]; decide)] at this; exact this
    have hc : w'.heap[q]? = some (.cells (bts s).toArray 200 (0, 0)) := (hB.2.block q (Array.getElem?_eq_some_iff.1 hq).1 (fun e => h8 e)).trans hq
    have h6 : Bs w' (.slice (some ⟨q, 0, none⟩) s.length 44) s := Bs.mid (by omega) (by omega) hx (fun j u hu => by
     have : (bts s).toArray[j]? = some u := by simpa using hu
     simp [World.cell?, hc, this])
    rw [hs] at h6
    obtain ⟨w2, he, hf, h3⟩ := row_copy (n := 44) (cap := 44) (off := 16) o.type ha h6 (by omega) (by omega)
    refine op_val (v := .int .i64 (s.length : Nat)) (w' := w2) (by simp only [execOp, show o.op = Op.call { callee := Callee.builtin Builtin.copy, args := #[.tmp 8, .tmp 10], argTypes := #[31, 31] } from ho, resolve, invoke, builtin, Sem.run_bind, Sem.run_pure, Result.andThen_ok, List.map_toArray, List.map_cons, List.map_nil, u0, u1, he]) h0 ⟨⟨?_, hB.2.later (T := fun k => k = b) ⟨h3.os, h3.tape, h3.output, h3.size, fun k hk hh => h3.block k hk (fun e => hh (by cases e; rfl))⟩ (fun _ _ q => q)⟩, trivial, fun j u hj q => by
     match j, q with
     | 0, q | 1, q | 2, q | 3, q => exact q
     | j + 4, _ => trivial⟩
    show Brow _ b (if upd D 4 4 = true then _ else _)
    rw [if_pos (by unfold upd; rw [if_pos rfl])]
    exact hf
   | n + 5, hn => exact absurd hn (by show ¬ n + 5 < 5; omega)
 · rintro a' w' hm ⟨D, hD, h7⟩ hV
   have e : a' = Act.putFrom a 7 ((List.range 5).map fun i => a'.eval (.tmp (7 + i))) := hm.out _ (by rw [List.length_map, List.length_range]) (by omega) (fun i hi => by
    rw [List.length_map, List.length_range] at hi
    rw [List.getD_eq_getElem?_getD, List.getElem?_map, List.getElem?_range hi]; rfl)
   rw [e]
   have := h7.1
   rw [if_pos (hD 4 (by decide))] at this
   exact hQ w' _ (by rw [List.length_map, List.length_range]) this h7.2
theorem list5 (h : vs.length = 5) : ∃ x0 x1 x2 x3 x4, vs = [x0, x1, x2, x3, x4] := by
 match vs, h with
 | [x0, x1, x2, x3, x4], _ => exact ⟨x0, x1, x2, x3, x4, rfl⟩
theorem shard_body (l : List Nat) (w : World) (hf : (Rec.shard l).ok) :
 Calls Tryz.prog 247 #[.agg (bts l).toArray] w fun e w' => ∃ v, e = .returned v ∧ Bs w' v (Rec.shard l).body ∧ Below w.heap.size w w' := by
 obtain ⟨hl, hx⟩ := hf
 have hq := blk_alloc_new w (.cells (bts l).toArray 200)
 have h0 : Below w.heap.size w (w.alloc (.cells (bts l).toArray 200)) := (Below.refl _ w).alloc (Nat.le_refl _) _
 have hz : (w.alloc (.cells (bts l).toArray 200)).heap.size = w.heap.size + 1 := by simp
 have hg : (bts l).toArray.size = 44 := by rw [List.size_toArray, bts_len, hl]
 obtain ⟨w1, h5⟩ : ∃ w1, w.alloc (.cells (bts l).toArray 200) = w1 := ⟨_, rfl⟩
 rw [h5] at hq h0 hz
 obtain ⟨ra, h1⟩ : ∃ ra, (bts l).toArray = ra := ⟨_, rfl⟩
 have H := hide5 hq h0 hz hx h1
 rw [h1] at h5 hg ⊢
 clear hq h0 hz hx h1
 go_enter Tryz.func247, Tryz.ntmps247
 go_wp2_with (at_make; refine wpList_mk _ rfl (.const (.int .i64 60)) (.const (.int .i64 60)) rfl _ 60 rfl rfl rfl (by omega) ?_; intro w2 hB h6 hh; have c0 := hB.cell 0 (by decide); have f0 := hB.frozen 0)
 have h7 : Brow (w2.setCell ⟨w1.heap.size, 0, none⟩ (.int .u8 3)) w1.heap.size ((List.replicate 60 0).set 0 3) := hB.set 0 3
 have hi := H.out.2.2.1
 have h8 : (w2.setCell ⟨w1.heap.size, 0, none⟩ (.int .u8 3)).heap[w.heap.size]? = some (.cells (bts l).toArray 200 (0, 0)) := (blk_setCell_other _ _ _ _ (by show w.heap.size ≠ w1.heap.size; omega)).trans ((h6.block _ (by omega)).trans H.out.1)
 have h2 : Below w.heap.size w (w2.setCell ⟨w1.heap.size, 0, none⟩ (.int .u8 3)) := (H.out.2.1.trans (h6.mono (by omega))).setCell (p := ⟨w1.heap.size, 0, none⟩) (by show w.heap.size ≤ w1.heap.size; omega) _
 refine shard_region (by kernel_rfl) h7 (by simp) h8 hl H.out.2.2.2.1 (by omega) rfl rfl rfl ?_
 intro w4 vs h9 h3 ha
 obtain ⟨x0, x1, x2, x3, x4, rfl⟩ := list5 h9
 have hc : Below w.heap.size w w4 := h2.trans (ha.below fun k hk => ⟨by have := h2.size; omega, fun e => by omega⟩)
 have he : spl ((List.replicate 60 0).set 0 3) 16 l = (Rec.shard l).body := by
  unfold spl Rec.body
  rw [hl]
  simp [List.replicate]
 rw [he] at h3
 have h4 := Bs.of_row (n := 60) h3 (by rw [← he, spl_len (by simp [hl])]; simp) (by decide) (body_lt (r := .shard l) ⟨hl, H.out.2.2.2.1⟩)
 rw [List.take_of_length_le (body_len (r := .shard l) ⟨hl, H.out.2.2.2.1⟩), show (Rec.shard l).body.length = 60 by rw [← he, spl_len (by simp [hl])]; simp] at h4
 have H4 := hide2 h4 hc
 clear h4 hc h3 ha h2 h8 h7 h9
 rename_i hK
 refine hK _ _ ?_
 clear hK
 simp only [Act.putFrom, Act.put, List.setIfInBounds_toArray, List.set_cons_succ, List.set_cons_zero]
 go_wp2
 go_ret
 exact ⟨_, rfl, H4.out.1, H4.out.2⟩
theorem block_filled (w : World) (hv : hvLaid w) :
 Calls Tryz.prog 140 #[recV .filled] w fun e w' => e = .returned (.agg (blkA Rec.filled.blk)) ∧ Below w.heap.size w w' := by
 have hz := zeroBlk
 have hn : (blkA zb).size = 64 := by rw [blkA_size, zb_len]
 have h0 := Two.new w
 obtain ⟨w1, hp⟩ : ∃ w1, (w.alloc (.cells (blkA zb) 240)).alloc (.cells (blkA zb) 240) = w1 := ⟨_, rfl⟩
 rw [hp] at h0
 have he := body_len (r := .filled) trivial
 have ha := body_lt (r := .filled) trivial
 have h8 : Rec.filled.blk = sealed Rec.filled.body := by unfold Rec.blk; rw [if_neg (by simp [Rec.body])]
 have h7 : 0 < Rec.filled.body.length := by simp [Rec.body]
 have h1 := filled_body w1
 rw [h8]
 obtain ⟨body, h6⟩ : ∃ body, Rec.filled.body = body := ⟨_, rfl⟩
 rw [h6] at he ha h7 h1 ⊢
 have H0 := hide3 h0 ha hv
 unfold recV
 clear h0 ha hv h8 h6
 go_enter Tryz.func140, Tryz.ntmps140
 go_wp2_with fail
 refine h1.mono ?_
 clear h1
 rintro e w2 ⟨v, rfl, hS, hf⟩
 have h2 := H0.out.1.mono hf
 obtain ⟨ao, c, rfl, hq, hr, hs, hx⟩ := id hS
 have hy : (0 : Int) < ((body.length : Nat) : Int) := by omega
 have hg : body ≠ [] := by intro e; rw [e] at h7; simp at h7
 have k0 := blk_copy (n := 60) (cap := 60) (off := 4) 3 h2.blk hS hg (by omega) (by rw [zb_len]; omega)
 have h3 : Two w (w2.setRow (w.heap.size + 1) (blkA (spl zb 4 body))) w.heap.size (w.heap.size + 1) (spl zb 4 body) := h2.set (Outside.setRow (S := fun k => k = w.heap.size + 1) _ _ _ rfl) (h2.blk.setRow _)
 obtain ⟨w3, hh⟩ : ∃ w3, w2.setRow (w.heap.size + 1) (blkA (spl zb 4 body)) = w3 := ⟨_, rfl⟩
 rw [hh] at k0 h3
 have k5 : (spl zb 4 body).length = 64 := by rw [spl_len (by rw [zb_len]; omega), zb_len]
 have hG := H0.out.2.2.lt
 have hv3 : hvLaid w3 := H0.out.2.2.below h3.below hG
 have H3 := hide2 h3 hv3
 clear h2 hS hf hq hr hs hx hh h3 hv3 hg
 go_wp2_with fail
 refine block_region (by kernel_rfl) H3.out.1.blk k5 (spl_lt zb_lt H0.out.2.1) H3.out.2 (by omega) rfl rfl ?_
 intro w4 vs hi hj hm
 obtain ⟨x0, x1, x2, x3, x4, x5, rfl⟩ := list6 hi
 have h4 := H3.out.1.set hm hj
 rw [seal_eq he] at h4
 have h9 : (sealed body).length = 64 := by unfold sealed; simp [be_len]; omega
 obtain ⟨sb, hc⟩ : ∃ sb, sealed body = sb := ⟨_, rfl⟩
 rw [hc] at h4 h9
 have k6 := hide hc
 have H4 := hide h4
 clear h4 hj hm hi hc
 rename_i hK
 refine hK _ _ ?_
 clear hK
 simp only [Act.putFrom, Act.put, List.setIfInBounds_toArray, List.set_cons_succ, List.set_cons_zero]
 go_wp2_with (first | (refine bl_load rfl (.tmp 3) rfl (w.heap.size + 1) sb rfl H4.out.blk h9 ?_) | (refine bl_store rfl (.tmp 2) (.tmp 19) rfl w.heap.size sb zb rfl rfl H4.out.res zb_len h9 ?_))
 have h5 := H4.out.res.setRow sb
 refine bodyPost_ret (v := .agg (blkA sb)) (results_cell_row Tryz.results140 _ _ w.heap.size 240 (blkA sb) (0, 0) _ rfl h5 Tryz.underlying240 rfl (blkA_info h9)) rfl ?_
 exact ⟨by rw [k6.out], H4.out.below.trans ⟨rfl, rfl, rfl, by simp [World.setRow], fun k hk => (grown_setRow' _ _ _).block k (by have := H4.out.res.lt; omega) (fun e => by cases e; omega)⟩⟩
theorem block_shard (l : List Nat) (w : World) (h9 : (Rec.shard l).ok) (hv : hvLaid w) :
 Calls Tryz.prog 140 #[recV (.shard l)] w fun e w' => e = .returned (.agg (blkA (Rec.shard l).blk)) ∧ Below w.heap.size w w' := by
 have hz := zeroBlk
 have hq : (blkA zb).size = 64 := by rw [blkA_size, zb_len]
 have h0 := Two.new w
 obtain ⟨w1, hr⟩ : ∃ w1, (w.alloc (.cells (blkA zb) 240)).alloc (.cells (blkA zb) 240) = w1 := ⟨_, rfl⟩
 rw [hr] at h0
 have hf := body_len h9
 have hc := body_lt h9
 have h8 : (Rec.shard l).blk = sealed (Rec.shard l).body := by unfold Rec.blk; rw [if_neg (by simp [Rec.body])]
 have h7 : 0 < (Rec.shard l).body.length := by simp [Rec.body]
 have h1 := shard_body l w1 h9
 rw [h8]
 obtain ⟨body, h6⟩ : ∃ body, (Rec.shard l).body = body := ⟨_, rfl⟩
 rw [h6] at hf hc h7 h1 ⊢
 have H0 := hide3 h0 hc hv
 unfold recV
 obtain ⟨ra, hg⟩ : ∃ ra, (bts l).toArray = ra := ⟨_, rfl⟩
 simp only [hg] at h1 ⊢
 clear h0 hc hv h9 h8 hg h6
 go_enter Tryz.func140, Tryz.ntmps140
 go_wp2_with fail
 refine h1.mono ?_
 clear h1
 rintro e w2 ⟨v, rfl, hS, hh⟩
 have h2 := H0.out.1.mono hh
 obtain ⟨ao, c, rfl, hs, hx, hy, k0⟩ := id hS
 have k5 : (0 : Int) < ((body.length : Nat) : Int) := by omega
 have hi : body ≠ [] := by intro e; rw [e] at h7; simp at h7
 have k6 := blk_copy (n := 60) (cap := 60) (off := 4) 3 h2.blk hS hi (by omega) (by rw [zb_len]; omega)
 have h3 : Two w (w2.setRow (w.heap.size + 1) (blkA (spl zb 4 body))) w.heap.size (w.heap.size + 1) (spl zb 4 body) := h2.set (Outside.setRow (S := fun k => k = w.heap.size + 1) _ _ _ rfl) (h2.blk.setRow _)
 obtain ⟨w3, hj⟩ : ∃ w3, w2.setRow (w.heap.size + 1) (blkA (spl zb 4 body)) = w3 := ⟨_, rfl⟩
 rw [hj] at k6 h3
 have k7 : (spl zb 4 body).length = 64 := by rw [spl_len (by rw [zb_len]; omega), zb_len]
 have hG := H0.out.2.2.lt
 have hv3 : hvLaid w3 := H0.out.2.2.below h3.below hG
 have H3 := hide2 h3 hv3
 clear h2 hS hh hs hx hy k0 hj h3 hv3 hi
 go_wp2_with fail
 refine block_region (by kernel_rfl) H3.out.1.blk k7 (spl_lt zb_lt H0.out.2.1) H3.out.2 (by omega) rfl rfl ?_
 intro w4 vs hm hn hp
 obtain ⟨x0, x1, x2, x3, x4, x5, rfl⟩ := list6 hm
 have h4 := H3.out.1.set hp hn
 rw [seal_eq hf] at h4
 have ha : (sealed body).length = 64 := by unfold sealed; simp [be_len]; omega
 obtain ⟨sb, he⟩ : ∃ sb, sealed body = sb := ⟨_, rfl⟩
 rw [he] at h4 ha
 have k8 := hide he
 have H4 := hide h4
 clear h4 hn hp hm he
 rename_i hK
 refine hK _ _ ?_
 clear hK
 simp only [Act.putFrom, Act.put, List.setIfInBounds_toArray, List.set_cons_succ, List.set_cons_zero]
 go_wp2_with (first | (refine bl_load rfl (.tmp 3) rfl (w.heap.size + 1) sb rfl H4.out.blk ha ?_) | (refine bl_store rfl (.tmp 2) (.tmp 19) rfl w.heap.size sb zb rfl rfl H4.out.res zb_len ha ?_))
 have h5 := H4.out.res.setRow sb
 refine bodyPost_ret (v := .agg (blkA sb)) (results_cell_row Tryz.results140 _ _ w.heap.size 240 (blkA sb) (0, 0) _ rfl h5 Tryz.underlying240 rfl (blkA_info ha)) rfl ?_
 exact ⟨by rw [k8.out], H4.out.below.trans ⟨rfl, rfl, rfl, by simp [World.setRow], fun k hk => (grown_setRow' _ _ _).block k (by have := H4.out.res.lt; omega) (fun e => by cases e; omega)⟩⟩
theorem makes_filled : Makes .filled := fun w hv => block_filled w hv
theorem makes_shard (h0 : (Rec.shard l).ok) : Makes (.shard l) := fun w hv => block_shard l w h0 hv
end Go.Proofs.YtpaemkanfnddoaaGreatDoor
