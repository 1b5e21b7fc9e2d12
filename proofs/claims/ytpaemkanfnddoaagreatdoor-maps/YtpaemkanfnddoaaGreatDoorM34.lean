import Derived.Test.YtpaemkanfnddoaaGreatDoorM33
import Derived.Laws.CopyRow
set_option maxRecDepth 100000
set_option maxHeartbeats 8000000
namespace Go.Proofs.YtpaemkanfnddoaaGreatDoor
open Go.RowKit Go.Deep Gf
variable {a : Act} {ops : Array Oper} {Q : Exit → Act → World → Prop} {q s j b off bl c lo : Nat} {Dn : Nat → Bool} {v12 : Value} {w w' w12 : World}
theorem stripesOf_any (n m : Nat) (hn : n ≤ 1000000) (hm : 1 ≤ m ∧ m ≤ 1000000) (w : World) : Calls Tryz.prog 84 #[.int .i64 n, .int .i64 m] w fun e w' => e = .returned (.int .i64 ((max 1 ((n + m - 1) / m) : Nat) : Int)) ∧ w' = w := by
 have h0 := pieces_any n m (by omega) hm w
 obtain ⟨q, hq⟩ : ∃ q, (n + m - 1) / m = q := ⟨_, rfl⟩
 rw [hq] at h0
 rw [hq]
 have h1 : ∀ (ty : TypeId) (w : World), (Builtin.max_ #[3, 3] ty #[.int .i64 1, .int .i64 (q : Int)]).run Tryz.prog w = .ok (.int .i64 ((max 1 q : Nat) : Int)) w := fun ty w => by
  rw [run_max_int]
  congr 2
  split <;> omega
 clear hq
 go_enter Tryz.func84, Tryz.ntmps84
 go_wp2_with fail
 refine h0.mono ?_
 rintro e w' ⟨rfl, hw⟩
 obtain rfl : w = w' := hw.symm
 clear h0 hw
 go_wp2
 go_ret
 exact ⟨rfl, rfl⟩
def BU (w : World) (q s : Nat) (v12 : Value) (w12 : World) (Dn : Nat → Bool) (w' : World) : Prop := w' = if Dn 14 = true then w12.setCell ⟨q, 2, none⟩ v12 else if Dn 12 = true then w12 else if Dn 11 = true then w.drew.alloc (.cells #[.int .i64 (s : Int)] 3) else w.drew
theorem BU_upd (h : BU w q s v12 w12 Dn w') (i : Nat) (h1 : 14 ≠ i) (h2 : 12 ≠ i) (h3 : 11 ≠ i) : BU w q s v12 w12 (upd Dn i) w' := by unfold BU; rw [upd_ne h1, upd_ne h2, upd_ne h3]; exact h
theorem BU_first (h : BU w q s v12 w12 Dn w') (h1 : Dn 14 = false) (h2 : Dn 12 = false) (h3 : Dn 11 = false) : w' = w.drew := by
 unfold BU at h
 rwa [if_neg (by rw [h1]; decide), if_neg (by rw [h2]; decide), if_neg (by rw [h3]; decide)] at h
theorem BU_second (h : BU w q s v12 w12 Dn w') (h1 : Dn 14 = false) (h2 : Dn 12 = false) (h3 : Dn 11 = true) : w' = w.drew.alloc (.cells #[.int .i64 (s : Int)] 3) := by
 unfold BU at h
 rwa [if_neg (by rw [h1]; decide), if_neg (by rw [h2]; decide), if_pos h3] at h
theorem not_yet {sh : List (Op × Option Nat × List Nat)} {i : Nat} (h0 : ∀ j, Dn j = true → j < sh.length ∧ ∀ k ∈ (shAt sh j).2.2, Dn k = true) (h1 : Dn i = false) (hd : i ∈ (shAt sh j).2.2) : Dn j = false := by
 cases h : Dn j with
 | false => rfl
 | true =>
  have := (h0 j h).2 i hd
  rw [h1] at this
  cases this
noncomputable def RU12 : Array Oper := ((Tryz.f168.body.bind (rgf · 12))).getD #[]
def shU12 : List (Op × Option Nat × List Nat) := [(Op.fieldAddr 114 (.tmp 4) 2, some 55, []),
 (Op.load 108 (.tmp 55), some 56, [0]),
 (Op.move (.tmp 0), some 57, []),
 (Op.move (.tmp 10), some 58, []),
 (Op.call { callee := Callee.value (Operand.func 85), args := #[.tmp 58], argTypes := #[3] }, some 59, [3]),
 (Op.move (.tmp 10), some 60, []),
 (Op.binOp BinOp.add 3 (.tmp 60) (Operand.const (Value.int IntKind.i64 1)) 3, some 61, [5]),
 (Op.call { callee := Callee.value (Operand.func 85), args := #[.tmp 61], argTypes := #[3] }, some 62, [6, 4]),
 (Op.slice 31 (.tmp 57) (some (.tmp 59)) (some (.tmp 62)) none, some 63, [2, 4, 7]),
 (Op.call { callee := Callee.value (Operand.func 167), args := #[.tmp 63], argTypes := #[31] }, some 64, [8, 7]),
 (Op.convert 105 3 (.tmp 64), some 65, [9]),
 (Op.buildSlice 108 1 #[(0, .tmp 65)], some 66, [10]),
 (Op.call { callee := Callee.builtin Builtin.append, args := #[.tmp 56, .tmp 66], argTypes := #[108, 108] }, some 67, [1, 11, 9]),
 (Op.fieldAddr 114 (.tmp 4) 2, some 68, [0, 1, 2, 3, 4, 5, 6, 7, 8, 9, 10, 11, 12]),
 (Op.store 108 (.tmp 68) (.tmp 67), none, [13, 12, 12, 0, 1, 2, 3, 4, 5, 6, 7, 8, 9, 10, 11, 12])]
theorem RU12_shape : RegShape RU12 55 69 shU12 := regShape (by kernel_rfl) (by kernel_rfl)
def vsU12 (w : World) (q b off bl c j lo s : Nat) (sv v12 : Value) : List Value := [.pointer (some ⟨q, 2, none⟩), sv, .slice (some ⟨b, off, none⟩) bl c, .int .i64 j, .int .i64 (lo : Nat), .int .i64 j, .int .i64 ((j + 1 : Nat) : Int), .int .i64 ((lo + 4 : Nat) : Int), .slice (some ⟨b, off + lo, none⟩) 4 (c - lo), .int .u64 (s : Nat), .int .i64 (s : Nat), .slice (some ⟨w.heap.size, 0, none⟩) 1 1, v12, .pointer (some ⟨q, 2, none⟩), undef]
theorem unpack_region12 {sv nm : Value} {sz : Value} (hq : w.heap[q]? = some (.cells #[nm, sz, sv] 114 (0, 0))) (hc : 19 + 4 * j = lo) (k5 : lo + 4 ≤ bl) (k6 : bl ≤ c) (hj : j ≤ 100000) (hs : s < 4294967296) (he : Bs w (.slice (some ⟨b, off + lo, none⟩) 4 (c - lo)) (be s 4)) (hf : ∀ ty, (Builtin.append_ #[108, 108] ty #[sv, .slice (some ⟨w.heap.size, 0, none⟩) 1 1]).run Tryz.prog (w.drew.alloc (.cells #[.int .i64 (s : Int)] 3)) = .ok v12 w12) (h6 : ∃ va vn vc, v12 = .slice va vn vc) (h5 : w12.heap[q]? = some (.cells #[nm, sz, sv] 114 (0, 0))) (h7 : RU12 = ops) (k7 : a.tmps.size = 75)
 (e0 : a.eval (.tmp 0) = .slice (some ⟨b, off, none⟩) bl c) (e4 : a.eval (.tmp 4) = .pointer (some ⟨q, 0, none⟩)) (e10 : a.eval (.tmp 10) = .int .i64 j)
 (hQ : ∀ (w' : World), w' = w12.setCell ⟨q, 2, none⟩ v12 → Q .normal (Act.putFrom a 55 [.pointer (some ⟨q, 2, none⟩), sv, .slice (some ⟨b, off, none⟩) bl c, .int .i64 j, .int .i64 (lo : Nat), .int .i64 j, .int .i64 ((j + 1 : Nat) : Int), .int .i64 ((lo + 4 : Nat) : Int), .slice (some ⟨b, off + lo, none⟩) 4 (c - lo), .int .u64 (s : Nat), .int .i64 (s : Nat), .slice (some ⟨w.heap.size, 0, none⟩) 1 1, v12, .pointer (some ⟨q, 2, none⟩)]) w') : (Code.region 12 ops true).wp Tryz.prog Q a w := by
 subst h7
 have e23 : 19 + 4 * (j + 1) = lo + 4 := by omega
 have ofs : ofB (be s 4) = s := ofB_be s 4 (by omega) (by omega)
 have cq : w.cell? ⟨q, 2, none⟩ = some sv := by simp [World.cell?, hq]
 refine region_factsS (by kernel_rfl) RU12_shape a w (by omega) (fun i u _ => u = (vsU12 w q b off bl c j lo s sv v12).getD i undef) (BU w q s v12 w12) rfl ?_ ?_
 · intro i hi
   match i, hi with
   | 0, _ =>
    intro o a' w' Dn hg ho h1 hk h4 h3 h0 hB h2
    have u0 : a'.eval (.tmp 4) = .pointer (some ⟨q, 0, none⟩) := (hk.slot 4 (by omega)).trans e4
    exact op_val (v := .pointer (some ⟨q, 2, none⟩)) (by simp only [execOp, show o.op = Op.fieldAddr 114 (.tmp 4) 2 from ho, u0]; go_simp) h1 ⟨BU_upd hB 0 (by decide) (by decide) (by decide), rfl, kq⟩
   | 1, _ =>
    intro o a' w' Dn hg ho h1 hk h4 h3 h0 hB h2
    have u0 : a'.eval (.tmp 55) = .pointer (some ⟨q, 2, none⟩) := h2 0 (h0 0 (by decide))
    have n12 : Dn 12 = false := not_yet h3 h4 (by decide)
    have n14 : Dn 14 = false := not_yet h3 n12 (by decide)
    have cc : w'.cell? ⟨q, 2, none⟩ = some sv := by
     cases h9 : Dn 11 with
     | false => rw [BU_first hB n14 n12 h9]; exact cq
     | true => rw [BU_second hB n14 n12 h9]; exact (World.cell?_alloc_some w.drew _ _ (by rw [show w.drew.cell? ⟨q, 2, none⟩ = some sv from cq]; rfl)).trans cq
    exact op_val (v := sv) (by simp only [execOp, show o.op = Op.load 108 (.tmp 55) from ho, u0]; go_simp) h1 ⟨BU_upd hB 1 (by decide) (by decide) (by decide), rfl, kq⟩
   | 2, _ =>
    intro o a' w' Dn hg ho h1 hk h4 h3 h0 hB h2
    have u0 : a'.eval (.tmp 0) = .slice (some ⟨b, off, none⟩) bl c := (hk.slot 0 (by omega)).trans e0
    exact op_val (run_op_move ho u0 w') h1 ⟨BU_upd hB 2 (by decide) (by decide) (by decide), rfl, kq⟩
   | 3, _ =>
    intro o a' w' Dn hg ho h1 hk h4 h3 h0 hB h2
    have u0 : a'.eval (.tmp 10) = .int .i64 j := (hk.slot 10 (by omega)).trans e10
    exact op_val (run_op_move ho u0 w') h1 ⟨BU_upd hB 3 (by decide) (by decide) (by decide), rfl, kq⟩
   | 4, _ =>
    intro o a' w' Dn hg ho h1 hk h4 h3 h0 hB h2
    have u0 : a'.eval (.tmp 58) = .int .i64 j := h2 3 (h0 3 (by decide))
    refine op_call (f := 85) (args := #[.int .i64 j]) (w1 := w') (by simp only [execOp, show o.op = Op.call { callee := Callee.value (Operand.func 85), args := #[.tmp 58], argTypes := #[3] } from ho]; go_simp; simpa [Act.eval] using u0) h1 (packed_any j (by omega) w') ?_
    rintro e w'' ⟨rfl, hw⟩
    exact ⟨_, rfl, by rw [hw]; exact BU_upd hB 4 (by decide) (by decide) (by decide), by rw [hc]; rfl, kq⟩
   | 5, _ =>
    intro o a' w' Dn hg ho h1 hk h4 h3 h0 hB h2
    have u0 : a'.eval (.tmp 10) = .int .i64 j := (hk.slot 10 (by omega)).trans e10
    exact op_val (run_op_move ho u0 w') h1 ⟨BU_upd hB 5 (by decide) (by decide) (by decide), rfl, kq⟩
   | 6, _ =>
    intro o a' w' Dn hg ho h1 hk h4 h3 h0 hB h2
    have u0 : a'.eval (.tmp 60) = .int .i64 j := h2 5 (h0 5 (by decide))
    have k8 : IntKind.i64.wrap ((j : Int) + 1) = (j : Int) + 1 := by rw [IntKind.wrap_i64]; omega
    exact op_val (v := .int .i64 ((j + 1 : Nat) : Int)) (by simp only [execOp, show o.op = Op.binOp BinOp.add 3 (.tmp 60) (Operand.const (Value.int IntKind.i64 1)) 3 from ho, u0]; go_simp) h1 ⟨BU_upd hB 6 (by decide) (by decide) (by decide), rfl, kq⟩
   | 7, _ =>
    intro o a' w' Dn hg ho h1 hk h4 h3 h0 hB h2
    have u0 : a'.eval (.tmp 61) = .int .i64 ((j + 1 : Nat) : Int) := h2 6 (h0 6 (by decide))
    refine op_call (f := 85) (args := #[.int .i64 ((j + 1 : Nat) : Int)]) (w1 := w') (by simp only [execOp, show o.op = Op.call { callee := Callee.value (Operand.func 85), args := #[.tmp 61], argTypes := #[3] } from ho]; go_simp; simpa [Act.eval] using u0) h1 (packed_any (j + 1) (by omega) w') ?_
    rintro e w'' ⟨rfl, hw⟩
    exact ⟨_, rfl, by rw [hw]; exact BU_upd hB 7 (by decide) (by decide) (by decide), by rw [e23]; rfl, kq⟩
   | 8, _ =>
    intro o a' w' Dn hg ho h1 hk h4 h3 h0 hB h2
    have u0 : a'.eval (.tmp 57) = .slice (some ⟨b, off, none⟩) bl c := h2 2 (h0 2 (by decide))
    have u1 : a'.eval (.tmp 59) = .int .i64 (lo : Nat) := h2 4 (h0 4 (by decide))
    have u2 : a'.eval (.tmp 62) = .int .i64 ((lo + 4 : Nat) : Int) := h2 7 (h0 7 (by decide))
    have hh : lo ≤ lo + 4 := by omega
    have hz : ¬ c - lo = 0 := by omega
    have hm : lo + 4 ≤ c := by omega
    have u1' : a'.tmps[59]?.getD undef = .int .i64 (lo : Nat) := by simpa [Act.eval] using u1
    have u2' : a'.tmps[62]?.getD undef = .int .i64 ((lo + 4 : Nat) : Int) := by simpa [Act.eval] using u2
    have hp : lo + 4 - lo = 4 := by omega
    have hr : ¬ c = lo := by omega
    clear u1 u2
    obtain ⟨hi, h8⟩ : ∃ hi, lo + 4 = hi := ⟨_, rfl⟩
    rw [h8] at u2' hp hm hh
    exact op_val (v := .slice (some ⟨b, off + lo, none⟩) 4 (c - lo)) (by simp only [execOp, show o.op = Op.slice 31 (.tmp 57) (some (.tmp 59)) (some (.tmp 62)) none from ho, u0]; go_simp) h1 ⟨BU_upd hB 8 (by decide) (by decide) (by decide), rfl, kq⟩
   | 9, _ =>
    intro o a' w' Dn hg ho h1 hk h4 h3 h0 hB h2
    have u0 : a'.eval (.tmp 63) = .slice (some ⟨b, off + lo, none⟩) 4 (c - lo) := h2 8 (h0 8 (by decide))
    have n11 : Dn 11 = false := not_yet h3 (not_yet h3 h4 (by decide) : Dn 10 = false) (by decide)
    have n12 : Dn 12 = false := not_yet h3 n11 (by decide)
    have n14 : Dn 14 = false := not_yet h3 n12 (by decide)
    have hw := BU_first hB n14 n12 n11
    refine op_call (f := 167) (args := #[.slice (some ⟨b, off + lo, none⟩) 4 (c - lo)]) (w1 := w') (by simp only [execOp, show o.op = Op.call { callee := Callee.value (Operand.func 167), args := #[.tmp 63], argTypes := #[31] } from ho]; go_simp; simpa [Act.eval] using u0) h1 (of_num _ (be s 4) w' (by rw [hw]; exact he)) ?_
    rintro e w'' ⟨rfl, hx⟩
    exact ⟨_, rfl, by rw [hx]; exact BU_upd hB 9 (by decide) (by decide) (by decide), by rw [ofs]; rfl, kq⟩
   | 10, _ =>
    intro o a' w' Dn hg ho h1 hk h4 h3 h0 hB h2
    have u0 : a'.eval (.tmp 64) = .int .u64 (s : Nat) := h2 9 (h0 9 (by decide))
    have k9 : IntKind.i64.wrap (s : Int) = s := by rw [IntKind.wrap_i64]; omega
    exact op_val (v := .int .i64 (s : Nat)) (by simp only [execOp, show o.op = Op.convert 105 3 (.tmp 64) from ho, u0]; go_simp) h1 ⟨BU_upd hB 10 (by decide) (by decide) (by decide), rfl, kq⟩
   | 11, _ =>
    intro o a' w' Dn hg ho h1 hk h4 h3 h0 hB h2
    have u0 : a'.eval (.tmp 65) = .int .i64 (s : Nat) := h2 10 (h0 10 (by decide))
    have n12 : Dn 12 = false := not_yet h3 h4 (by decide)
    have n14 : Dn 14 = false := not_yet h3 n12 (by decide)
    have hw := BU_first hB n14 n12 h4
    subst hw
    exact op_val (v := .slice (some ⟨w.heap.size, 0, none⟩) 1 1) (w' := w.drew.alloc (.cells #[.int .i64 (s : Int)] 3)) (by simp only [execOp, show o.op = Op.buildSlice 108 1 #[(0, .tmp 65)] from ho, List.map_toArray, List.map_cons, List.map_nil, u0]; go_simp) h1 ⟨by unfold BU; rw [upd_ne (by decide), upd_ne (by decide), if_neg (by rw [n14]; decide), if_neg (by rw [n12]; decide), if_pos upd_eq], rfl, kq⟩
   | 12, _ =>
    intro o a' w' Dn hg ho h1 hk h4 h3 h0 hB h2
    have u0 : a'.eval (.tmp 56) = sv := h2 1 (h0 1 (by decide))
    have u1 : a'.eval (.tmp 66) = .slice (some ⟨w.heap.size, 0, none⟩) 1 1 := h2 11 (h0 11 (by decide))
    have n14 : Dn 14 = false := not_yet h3 h4 (by decide)
    have hw := BU_second hB n14 h4 (h0 11 (by decide))
    subst hw
    exact op_val (v := v12) (w' := w12) (by simp only [execOp, show o.op = Op.call { callee := Callee.builtin Builtin.append, args := #[.tmp 56, .tmp 66], argTypes := #[108, 108] } from ho, resolve, invoke, builtin, Sem.run_bind, Sem.run_pure, Result.andThen_ok, List.map_toArray, List.map_cons, List.map_nil, u0, u1, hf]) h1 ⟨by unfold BU; rw [upd_ne (by decide), if_neg (by rw [n14]; decide), if_pos upd_eq], rfl, kq⟩
   | 13, _ =>
    intro o a' w' Dn hg ho h1 hk h4 h3 h0 hB h2
    have u0 : a'.eval (.tmp 4) = .pointer (some ⟨q, 0, none⟩) := (hk.slot 4 (by omega)).trans e4
    exact op_val (v := .pointer (some ⟨q, 2, none⟩)) (by simp only [execOp, show o.op = Op.fieldAddr 114 (.tmp 4) 2 from ho, u0]; go_simp) h1 ⟨BU_upd hB 13 (by decide) (by decide) (by decide), rfl, kq⟩
   | 14, _ =>
    intro o a' w' Dn hg ho h1 hk h4 h3 h0 hB h2
    obtain ⟨va, vn, vc, rfl⟩ := h6
    have u0 : a'.eval (.tmp 68) = .pointer (some ⟨q, 2, none⟩) := h2 13 (h0 13 (by decide))
    have u1 : a'.eval (.tmp 67) = .slice va vn vc := h2 12 (h0 12 (by decide))
    have hw : w' = w12 := by
     have := hB
     unfold BU at this
     rwa [if_neg (by rw [h4]; decide), if_pos (h0 12 (by decide))] at this
    subst hw
    have cc : w'.cell? ⟨q, 2, none⟩ = some sv := by simp [World.cell?, h5]
    have ff : w'.frozen? ⟨q, 2, none⟩ = false := by simp [World.frozen?, h5]
    exact op_skip (w' := w'.setCell ⟨q, 2, none⟩ (.slice va vn vc)) (by simp only [execOp, show o.op = Op.store 108 (.tmp 68) (.tmp 67) from ho, u0, u1]; go_simp) ⟨by unfold BU; rw [if_pos upd_eq], rfl, kq⟩
   | n + 15, hn => exact absurd hn (by show ¬ n + 15 < 15; omega)
 · rintro a' w' hy ha ⟨Dn, k0, hB⟩ h2
   have e : a' = Act.putFrom a 55 [.pointer (some ⟨q, 2, none⟩), sv, .slice (some ⟨b, off, none⟩) bl c, .int .i64 j, .int .i64 (lo : Nat), .int .i64 j, .int .i64 ((j + 1 : Nat) : Int), .int .i64 ((lo + 4 : Nat) : Int), .slice (some ⟨b, off + lo, none⟩) 4 (c - lo), .int .u64 (s : Nat), .int .i64 (s : Nat), .slice (some ⟨w.heap.size, 0, none⟩) 1 1, v12, .pointer (some ⟨q, 2, none⟩)] := hy.out _ rfl (by omega) (fun i hi => ?_)
   · rw [e]; exact hQ w' (by unfold BU at hB; rw [if_pos (k0 14 (by decide))] at hB; exact hB)
   · match i, hi with
     | 0, _ => exact h2 0 (by decide)
     | 1, _ => exact h2 1 (by decide)
     | 2, _ => exact h2 2 (by decide)
     | 3, _ => exact h2 3 (by decide)
     | 4, _ => exact h2 4 (by decide)
     | 5, _ => exact h2 5 (by decide)
     | 6, _ => exact h2 6 (by decide)
     | 7, _ => exact h2 7 (by decide)
     | 8, _ => exact h2 8 (by decide)
     | 9, _ => exact h2 9 (by decide)
     | 10, _ => exact h2 10 (by decide)
     | 11, _ => exact h2 11 (by decide)
     | 12, _ => exact h2 12 (by decide)
     | 13, _ => exact h2 13 (by decide)
     | n + 14, hn => exact absurd hn (by simp)
noncomputable def RU14 : Array Oper := ((Tryz.f168.body.bind (rgf · 14))).getD #[]
def shU14 : List (Op × Option Nat × List Nat) := [(Op.load 114 (.tmp 4), some 70, []),
 (Op.move (.tmp 0), some 71, []),
 (Op.move (.tmp 9), some 72, []),
 (Op.call { callee := Callee.value (Operand.func 85), args := #[.tmp 72], argTypes := #[3] }, some 73, [2]),
 (Op.slice 31 (.tmp 71) (some (.tmp 73)) none none, some 74, [1, 3]),
 (Op.store 114 (.tmp 4) (.tmp 70), none, [0, 3, 0]),
 (Op.assign (.tmp 74), some 5, [4, 5, 0, 1, 2, 3, 4, 5]),
 (Op.assign (Operand.const (Value.bool true)), some 6, [6, 0, 1, 2, 3, 4, 5, 6])]
theorem RU14_shape : RegShape RU14 5 75 shU14 := regShape (by kernel_rfl) (by kernel_rfl)
def vsU14 (b off bl c m lo sz sc : Nat) (nm : ByteArray) (sa ra : Option Addr) : List Value := [.agg #[.string nm, .int .i64 (sz : Int), .slice sa m sc], .slice (some ⟨b, off, none⟩) bl c, .int .i64 m, .int .i64 (lo : Nat), .slice ra (bl - lo) (c - lo), undef, .slice ra (bl - lo) (c - lo), .bool true]
theorem unpack_region14 {m sz sc : Nat} {nm : ByteArray} {sa ra : Option Addr} (hq : w.heap[q]? = some (.cells #[.string nm, .int .i64 (sz : Int), .slice sa m sc] 114 (0, 0))) (he : 19 + 4 * m = lo) (hp : lo ≤ bl) (hr : bl ≤ c) (hm : m ≤ 100000) (hf : (c = lo ∧ ra = some ⟨b, off, none⟩) ∨ (c ≠ lo ∧ ra = some ⟨b, off + lo, none⟩)) (ha : RU14 = ops) (hs : a.tmps.size = 75)
 (e0 : a.eval (.tmp 0) = .slice (some ⟨b, off, none⟩) bl c) (e4 : a.eval (.tmp 4) = .pointer (some ⟨q, 0, none⟩)) (e9 : a.eval (.tmp 9) = .int .i64 m)
 (hQ : ∀ (w' : World), w' = w.drew → Q .normal (Act.putFrom (Act.putFrom a 5 [.slice ra (bl - lo) (c - lo), .bool true]) 70 [.agg #[.string nm, .int .i64 (sz : Int), .slice sa m sc], .slice (some ⟨b, off, none⟩) bl c, .int .i64 m, .int .i64 (lo : Nat), .slice ra (bl - lo) (c - lo)]) w') : (Code.region 14 ops true).wp Tryz.prog Q a w := by
 subst ha
 have h7 : (Tryz.prog.info? 114).map (·.size) = some 3 := by kernel_rfl
 have hh : (Instr.loadAt 114 (.pointer (some ⟨q, 0, none⟩))).run Tryz.prog w.drew = .ok (.agg #[.string nm, .int .i64 (sz : Int), .slice sa m sc]) w.drew := by simp only [Instr.loadAt, Instr.sureAddr, Sem.run_bind, Sem.run_pure, Result.andThen_ok, run_loadVar_row w.drew q 114 114 #[.string nm, .int .i64 (sz : Int), .slice sa m sc] (0, 0) _ hq Tryz.underlying114 rfl h7]
 have hj : (Instr.storeAt 114 (.pointer (some ⟨q, 0, none⟩)) (.agg #[.string nm, .int .i64 (sz : Int), .slice sa m sc])).run Tryz.prog w.drew = .ok () w.drew := by
  simp only [Instr.storeAt, Instr.sureAddr, Sem.run_bind, Sem.run_pure, Result.andThen_ok, run_storeVar_row w.drew q 114 114 #[.string nm, .int .i64 (sz : Int), .slice sa m sc] #[.string nm, .int .i64 (sz : Int), .slice sa m sc] hq h7 rfl (by simp [Value.oneCell'])]
  rw [setRow_self w.drew q _ 114 (0, 0) hq]
 refine region_factsST (by kernel_rfl) RU14_shape a w (by omega) (fun i u _ => u = (vsU14 b off bl c m lo sz sc nm sa ra).getD i undef) (fun _ w' => w' = w.drew) rfl ?_ ?_
 · intro i hi
   match i, hi with
   | 0, _ =>
    intro o a' w' Dn hg ho h0 hk h4 h5 h6 h2 hB h3
    have u0 : a'.eval (.tmp 4) = .pointer (some ⟨q, 0, none⟩) := (h4 4 (by decide)).trans e4
    have hw : w' = w.drew := hB
    exact op_val (v := .agg #[.string nm, .int .i64 (sz : Int), .slice sa m sc]) (by rw [hw]; simp [execOp, show o.op = Op.load 114 (.tmp 4) from ho, u0, hh]) h0 ⟨hw, rfl, kq⟩
   | 1, _ =>
    intro o a' w' Dn hg ho h0 hk h4 h5 h6 h2 hB h3
    have u0 : a'.eval (.tmp 0) = .slice (some ⟨b, off, none⟩) bl c := (h4 0 (by decide)).trans e0
    exact op_val (run_op_move ho u0 w') h0 ⟨hB, rfl, kq⟩
   | 2, _ =>
    intro o a' w' Dn hg ho h0 hk h4 h5 h6 h2 hB h3
    have u0 : a'.eval (.tmp 9) = .int .i64 m := (h4 9 (by decide)).trans e9
    exact op_val (run_op_move ho u0 w') h0 ⟨hB, rfl, kq⟩
   | 3, _ =>
    intro o a' w' Dn hg ho h0 hk h4 h5 h6 h2 hB h3
    have u0 : a'.eval (.tmp 72) = .int .i64 m := h3 2 (h2 2 (by decide))
    refine op_call (f := 85) (args := #[.int .i64 m]) (w1 := w') (by simp only [execOp, show o.op = Op.call { callee := Callee.value (Operand.func 85), args := #[.tmp 72], argTypes := #[3] } from ho]; go_simp; simpa [Act.eval] using u0) h0 (packed_any m (by omega) w') ?_
    rintro e w'' ⟨rfl, hw⟩
    exact ⟨_, rfl, by rw [hw]; exact hB, by rw [he]; rfl, kq⟩
   | 4, _ =>
    intro o a' w' Dn hg ho h0 hk h4 h5 h6 h2 hB h3
    have u0 : a'.eval (.tmp 71) = .slice (some ⟨b, off, none⟩) bl c := h3 1 (h2 1 (by decide))
    have u1 : a'.tmps[73]?.getD undef = .int .i64 (lo : Nat) := by have h9 : a'.eval (.tmp 73) = .int .i64 (lo : Nat) := h3 3 (h2 3 (by decide)); simpa [Act.eval] using h9
    have hx : lo ≤ c := by omega
    refine op_val (v := .slice ra (bl - lo) (c - lo)) ?_ h0 ⟨hB, rfl, kq⟩
    rcases hf with ⟨h1, rfl⟩ | ⟨h1, rfl⟩
    · simp only [execOp, show o.op = Op.slice 31 (.tmp 71) (some (.tmp 73)) none none from ho, u0]
      go_simp
    · simp only [execOp, show o.op = Op.slice 31 (.tmp 71) (some (.tmp 73)) none none from ho, u0]
      go_simp
   | 5, _ =>
    intro o a' w' Dn hg ho h0 hk h4 h5 h6 h2 hB h3
    have u0 : a'.eval (.tmp 4) = .pointer (some ⟨q, 0, none⟩) := (h4 4 (by decide)).trans e4
    have u1 : a'.eval (.tmp 70) = .agg #[.string nm, .int .i64 (sz : Int), .slice sa m sc] := h3 0 (h2 0 (by decide))
    have hw : w' = w.drew := hB
    subst hw
    exact op_skip (w' := w.drew) (by simp [execOp, show o.op = Op.store 114 (.tmp 4) (.tmp 70) from ho, u0, u1, hj]) ⟨rfl, rfl, kq⟩
   | 6, _ =>
    intro o a' w' Dn hg ho h0 hk h4 h5 h6 h2 hB h3
    have u0 : a'.eval (.tmp 74) = .slice ra (bl - lo) (c - lo) := h3 4 (h2 4 (by decide))
    exact op_val (v := .slice ra (bl - lo) (c - lo)) (by simp only [execOp, show o.op = Op.assign (.tmp 74) from ho, u0]; go_simp) h0 ⟨hB, rfl, kq⟩
   | 7, _ =>
    intro o a' w' Dn hg ho h0 hk h4 h5 h6 h2 hB h3
    exact op_val (v := .bool true) (by simp only [execOp, show o.op = Op.assign (Operand.const (Value.bool true)) from ho]; go_simp) h0 ⟨hB, rfl, kq⟩
   | n + 8, hn => exact absurd hn (by show ¬ n + 8 < 8; omega)
 · rintro a' w' hc h8 ⟨Dn, hy, hB⟩ h3
   have e : a' = Act.putFrom (Act.putFrom a 5 [.slice ra (bl - lo) (c - lo), .bool true]) 70 [.agg #[.string nm, .int .i64 (sz : Int), .slice sa m sc], .slice (some ⟨b, off, none⟩) bl c, .int .i64 m, .int .i64 (lo : Nat), .slice ra (bl - lo) (c - lo)] := out2 hc.size hc.defers (same_ds h8) (by rfl) (by show 5 + 2 ≤ 70; omega) (by show 75 ≤ _; omega) (fun i hi => ?_) (fun i hi => ?_)
   · rw [e]; exact hQ w' hB
   · match i, hi with
     | 0, _ => exact h3 6 (by decide)
     | 1, _ => exact h3 7 (by decide)
     | n + 2, hn => exact absurd hn (by simp)
   · match i, hi with
     | 0, _ => exact h3 0 (by decide)
     | 1, _ => exact h3 1 (by decide)
     | 2, _ => exact h3 2 (by decide)
     | 3, _ => exact h3 3 (by decide)
     | 4, _ => exact h3 4 (by decide)
     | n + 5, hn => exact absurd hn (by simp)
end Go.Proofs.YtpaemkanfnddoaaGreatDoor
