import Derived.Test.YtpaemkanfnddoaaGreatDoorM15
import Derived.Defers
import Derived.Recover
import Derived.LaidEql
import Derived.Stop.Asserts
import Derived.RowKitTokens
set_option maxRecDepth 100000
set_option maxHeartbeats 8000000
namespace Go.Proofs.YtpaemkanfnddoaaGreatDoor
open Go.RowKit Go.Deep
variable {a : Act} {ops : Array Oper} {Q : Exit → Act → World → Prop} {D : Nat} {w : World}
section
open Go.Shelf Gf
attribute [local go_sem] Oper.semAt_some
abbrev Ch (D : Nat) := { i : Nat // i < D }
def chV (g i : Nat) : Value := .slice (some ⟨g, i * 44, none⟩) 44 44
def encCh (g : Nat) {D : Nat} (x : Ch D) : Array Value := #[chV g x.1]
noncomputable def RCh : Array Oper := ((Tryz.f188.body.bind (rgf · 3))).getD #[]
def shCh : List (Op × Option Nat × List Nat) := [(Op.load 3 (.tmp 2), some 13, []),
 (Op.load 31 (.tmp 1), some 14, []),
 (Op.move (.tmp 4), some 15, []),
 (Op.slice 31 (.tmp 14) (some (.tmp 15)) none none, some 16, [1, 2]),
 (Op.call { callee := Callee.builtin Builtin.len, args := #[.tmp 16], argTypes := #[31] }, some 17, [3]),
 (Op.call { callee := Callee.builtin Builtin.min, args := #[.tmp 13, .tmp 17], argTypes := #[3, 3] }, some 18, [0, 4]),
 (Op.assign (.tmp 18), some 5, [5, 0, 1, 2, 3, 4, 5])]
theorem RCh_shape : RegShape RCh 5 19 shCh := regShape (by kernel_rfl) (by kernel_rfl)
def vsCh (g D k : Nat) : List Value := [.int .i64 44, .slice (some ⟨g, 0, none⟩) (D * 44) (D * 44), .int .i64 (k * 44 : Nat), .slice (some ⟨g, k * 44, none⟩) (D * 44 - k * 44) (D * 44 - k * 44), .int .i64 (D * 44 - k * 44 : Nat), .int .i64 44, .int .i64 44]
theorem chunk_region {b1 b2 g k : Nat} (h9 : RCh = ops) (hk : k < D) (h1 : w.cell? ⟨b1, 0, none⟩ = some (.slice (some ⟨g, 0, none⟩) (D * 44) (D * 44))) (h2 : w.cell? ⟨b2, 0, none⟩ = some (.int .i64 44)) (ha : a.tmps.size = 31)
 (e1 : a.eval (.tmp 1) = .pointer (some ⟨b1, 0, none⟩)) (e2 : a.eval (.tmp 2) = .pointer (some ⟨b2, 0, none⟩)) (e4 : a.eval (.tmp 4) = .int .i64 (k * 44 : Nat))
 (hQ : Q .normal (Act.putFrom a 5 [.int .i64 44, a.eval (.tmp 6), a.eval (.tmp 7), a.eval (.tmp 8), a.eval (.tmp 9), a.eval (.tmp 10), a.eval (.tmp 11), a.eval (.tmp 12), .int .i64 44, .slice (some ⟨g, 0, none⟩) (D * 44) (D * 44), .int .i64 (k * 44 : Nat), .slice (some ⟨g, k * 44, none⟩) (D * 44 - k * 44) (D * 44 - k * 44), .int .i64 (D * 44 - k * 44 : Nat), .int .i64 44]) w.drew) :
 (Code.region 3 ops true).wp Tryz.prog Q a w := by
 subst h9
 refine region_factsS (by kernel_rfl) RCh_shape a w (by omega) (fun i u _ => u = (vsCh g D k).getD i undef) (fun _ w' => w' = w.drew) rfl ?_ ?_
 · intro i hi
   have c1 : w.drew.cell? ⟨b1, 0, none⟩ = some (.slice (some ⟨g, 0, none⟩) (D * 44) (D * 44)) := h1
   have c2 : w.drew.cell? ⟨b2, 0, none⟩ = some (.int .i64 44) := h2
   match i, hi with
   | 0, _ =>
    intro o a' w' Dn hg ho h0 hk h6 h7 h3 hB h5
    subst hB
    have u0 : a'.eval (.tmp 2) = .pointer (some ⟨b2, 0, none⟩) := (hk.slot 2 (by omega)).trans e2
    exact op_val (v := .int .i64 44) (by simp only [execOp, show o.op = Op.load 3 (.tmp 2) from ho, u0]; go_simp) h0 ⟨rfl, rfl, kq⟩
   | 1, _ =>
    intro o a' w' Dn hg ho h0 hk h6 h7 h3 hB h5
    subst hB
    have u0 : a'.eval (.tmp 1) = .pointer (some ⟨b1, 0, none⟩) := (hk.slot 1 (by omega)).trans e1
    exact op_val (v := .slice (some ⟨g, 0, none⟩) (D * 44) (D * 44)) (by simp only [execOp, show o.op = Op.load 31 (.tmp 1) from ho, u0]; go_simp) h0 ⟨rfl, rfl, kq⟩
   | 2, _ => exact fun o a' w' Dn hg ho h0 hk h6 h7 h3 hB h5 => op_val (run_op_move ho ((hk.slot 4 (by omega)).trans e4) w') h0 ⟨hB, rfl, kq⟩
   | 3, _ =>
    intro o a' w' Dn hg ho h0 h8 h6 h7 h3 hB h5
    have u0 : a'.eval (.tmp 14) = .slice (some ⟨g, 0, none⟩) (D * 44) (D * 44) := h5 1 (h3 1 (by decide))
    have u1 : a'.eval (.tmp 15) = .int .i64 (k * 44 : Nat) := h5 2 (h3 2 (by decide))
    have hc : k * 44 < D * 44 := by omega
    have u1' : a'.tmps[15]?.getD undef = .int .i64 (k * 44 : Nat) := by simpa [Act.eval] using u1
    have he : ¬ D * 44 = k * 44 := by omega
    refine op_val (v := .slice (some ⟨g, k * 44, none⟩) (D * 44 - k * 44) (D * 44 - k * 44)) ?_ h0 ⟨hB, rfl, kq⟩
    simp only [execOp, show o.op = Op.slice 31 (.tmp 14) (some (.tmp 15)) none none from ho, u0]
    generalize k * 44 = kk at *
    generalize D * 44 = dd at *
    go_simp
    intro h
    omega
   | 4, _ =>
    intro o a' w' Dn hg ho h0 h8 h6 h7 h3 hB h5
    have u0 : a'.eval (.tmp 16) = .slice (some ⟨g, k * 44, none⟩) (D * 44 - k * 44) (D * 44 - k * 44) := h5 3 (h3 3 (by decide))
    refine op_val (v := .int .i64 (D * 44 - k * 44 : Nat)) ?_ h0 ⟨hB, rfl, kq⟩
    simp only [execOp, show o.op = Op.call { callee := Callee.builtin Builtin.len, args := #[.tmp 16], argTypes := #[31] } from ho, resolve, invoke, builtin, Sem.run_bind, Sem.run_pure, Result.andThen_ok, List.map_toArray, List.map_cons, List.map_nil, u0]
    generalize D * 44 - k * 44 = dd at *
    go_simp
   | 5, _ =>
    intro o a' w' Dn hg ho h0 h8 h6 h7 h3 hB h5
    have u0 : a'.eval (.tmp 13) = .int .i64 44 := h5 0 (h3 0 (by decide))
    have u1 : a'.eval (.tmp 17) = .int .i64 (D * 44 - k * 44 : Nat) := h5 4 (h3 4 (by decide))
    refine op_val (v := .int .i64 44) ?_ h0 ⟨hB, rfl, kq⟩
    simp only [execOp, show o.op = Op.call { callee := Callee.builtin Builtin.min, args := #[.tmp 13, .tmp 17], argTypes := #[3, 3] } from ho, resolve, invoke, builtin, Sem.run_bind, Sem.run_pure, Result.andThen_ok, List.map_toArray, List.map_cons, List.map_nil, u0, u1, run_min_int]
    rw [if_neg (by omega)]
   | 6, _ =>
    intro o a' w' Dn hg ho h0 h8 h6 h7 h3 hB h5
    have u0 : a'.eval (.tmp 18) = .int .i64 44 := h5 5 (h3 5 (by decide))
    exact op_val (v := .int .i64 44) (by simp [execOp, show o.op = Op.assign (.tmp 18) from ho, u0]) h0 ⟨hB, rfl, kq⟩
   | n + 7, hn => exact absurd hn (by show ¬ n + 7 < 7; omega)
 · rintro a' w' h8 h4 ⟨Dn, hD, hB⟩ h5
   subst hB
   have e : a' = Act.putFrom a 5 [.int .i64 44, a.eval (.tmp 6), a.eval (.tmp 7), a.eval (.tmp 8), a.eval (.tmp 9), a.eval (.tmp 10), a.eval (.tmp 11), a.eval (.tmp 12), .int .i64 44, .slice (some ⟨g, 0, none⟩) (D * 44) (D * 44), .int .i64 (k * 44 : Nat), .slice (some ⟨g, k * 44, none⟩) (D * 44 - k * 44) (D * 44 - k * 44), .int .i64 (D * 44 - k * 44 : Nat), .int .i64 44] := h8.out _ rfl (by omega) (fun i hi => ?_)
   · rw [e]; exact hQ
   · match i, hi with
     | 0, _ => exact h5 6 (by decide)
     | 1, _ => exact h4 6 (by decide)
     | 2, _ => exact h4 7 (by decide)
     | 3, _ => exact h4 8 (by decide)
     | 4, _ => exact h4 9 (by decide)
     | 5, _ => exact h4 10 (by decide)
     | 6, _ => exact h4 11 (by decide)
     | 7, _ => exact h4 12 (by decide)
     | 8, _ => exact h5 0 (by decide)
     | 9, _ => exact h5 1 (by decide)
     | 10, _ => exact h5 2 (by decide)
     | 11, _ => exact h5 3 (by decide)
     | 12, _ => exact h5 4 (by decide)
     | 13, _ => exact h5 5 (by decide)
     | n + 14, hn => exact absurd hn (by simp)
def Kp2 (b1 b2 : Nat) (W W' : World) : Prop := W'.heap[b1]? = W.heap[b1]? ∧ W'.heap[b2]? = W.heap[b2]?
theorem chunks1_in (n l b1 b2 g D : Nat) (hD : D ≤ 1000) (J Jx : List (Ch D) → World → Prop) (h9 : ∀ pre W, J pre W → J pre W.drew)
 (hY : ∀ pre x W, J pre W → pre.length < D → YieldAt Fence.wide (n - 1) Tryz.prog l (encCh g x) W fun e W' =>
  (e = .returned (.bool true) ∧ J (pre ++ [x]) W' ∧ Kp2 b1 b2 W W') ∨ (e = .returned (.bool false) ∧ Jx (pre ++ [x]) W'))
 (W : World) (h1 : W.cell? ⟨b1, 0, none⟩ = some (.slice (some ⟨g, 0, none⟩) (D * 44) (D * 44))) (h2 : W.cell? ⟨b2, 0, none⟩ = some (.int .i64 44)) (h0 : J [] W) :
 CallsIn Fence.wide n Tryz.prog 188 #[.func (.yield l) #[] #[], .pointer (some ⟨b1, 0, none⟩), .pointer (some ⟨b2, 0, none⟩)] W fun e W' => (∃ v, e = .returned v) ∧
  ((∃ ys, ys.map (·.1) = List.range D ∧ J ys W') ∨ (∃ pre, pre.map (·.1) <+: List.range D ∧ Jx pre W')) := by
 refine callsIn_of_wp Tryz.func188 rfl trivial ?_ rfl
 simp only [Tryz.ntmps188, List.size_toArray, List.length_cons, List.length_nil, Nat.reduceAdd, Nat.reduceSub, Array.replicate_succ, Array.replicate_zero, List.push_toArray, List.append_toArray, List.nil_append, List.cons_append]
 gi_wp2
 gi_loopw [4] (fun p wr => ∃ (pre : List (Ch D)) (k : Nat), p = .int .i64 (k * 44 : Nat) ∧ k ≤ D ∧ pre.map (·.1) = List.range k ∧ J pre wr ∧ wr.cell? ⟨b1, 0, none⟩ = some (.slice (some ⟨g, 0, none⟩) (D * 44) (D * 44)) ∧ wr.cell? ⟨b2, 0, none⟩ = some (.int .i64 44))
  (fun p _ => D * 44 - (intOf p).toNat)
 case atStart =>
  exact ⟨[], 0, rfl, Nat.zero_le _, rfl, h0, h1, h2⟩
 case round =>
  obtain ⟨pre, k, rfl, hf, h3, hJ, c1, c2⟩ := hrel
  have h4 : pre.length = k := by have := congrArg List.length h3; simpa using this
  by_cases hk : k < D
  · have hg : ((k * 44 : Nat) : Int) < ((D * 44 : Nat) : Int) := by omega
    have c1' : wr.drew.cell? ⟨b1, 0, none⟩ = some (.slice (some ⟨g, 0, none⟩) (D * 44) (D * 44)) := c1
    have c2' : wr.drew.cell? ⟨b2, 0, none⟩ = some (.int .i64 44) := c2
    obtain ⟨fn, tmps, assign, body, hy, hR⟩ := hY pre ⟨k, hk⟩ wr.drew (h9 _ _ hJ) (by omega)
    unfold encCh chV at hy
    simp only at hy
    have H := hide4 hR hJ h3 h4
    clear hR hJ h3 h4
    gi_wp2
    refine wpIn_wide.2 (chunk_region (by kernel_rfl) hk c1 c2 rfl rfl rfl rfl ?_)
    rename_i hK
    refine hK _ _ ?_
    clear hK
    simp only [Act.putFrom, Act.put, List.setIfInBounds_toArray, List.set_cons_succ, List.set_cons_zero]
    have ha : wrap64 (((k * 44 : Nat) : Int) + 44) = ((k * 44 + 44 : Nat) : Int) := by unfold wrap64; omega
    have hc : k * 44 + 44 - k * 44 = 44 := by omega
    have hh : k * 44 + 44 ≤ D * 44 := by omega
    have hi : ¬ ((D * 44 : Nat) : Int) < ((k * 44 + 44 : Nat) : Int) := by omega
    have hj : ¬ ((k * 44 + 44 : Nat) : Int) < ((k * 44 : Nat) : Int) := by omega
    have hm : ¬ k * 44 + 44 = k * 44 := by omega
    generalize h6 : k * 44 = kk at *
    generalize he : D * 44 = dd at *
    generalize hn : kk + 44 = ee at *
    gi_wp2
    refine ⟨fun h => (by cases h), H.out.1.mono ?_⟩
    rintro e W3 (⟨rfl, h7, h8⟩ | ⟨rfl, h5⟩)
    · have d1 : W3.cell? ⟨b1, 0, none⟩ = some (.slice (some ⟨g, 0, none⟩) dd dd) := (World.cell?_of_block h8.1).trans c1'
      have d2 : W3.cell? ⟨b2, 0, none⟩ = some (.int .i64 44) := (World.cell?_of_block h8.2).trans c2'
      have HJ := hide h7
      clear h7
      gi_wp2
      go_roundw
      case rel => exact ⟨pre ++ [⟨k, hk⟩], k + 1, by rw [show (k + 1) * 44 = ee by omega]; congr 1; omega, by omega, by rw [List.map_append, H.out.2.2.1, List.range_succ]; rfl, HJ.out, by rw [he]; exact d1, d2⟩
      case measure => simp only [intOf]; omega
    · have HJ := hide h5
      clear h5
      gi_wp2
      refine bodyPost_ret (results_none rfl _ _ _) rfl ?_
      refine ⟨⟨_, rfl⟩, .inr ⟨pre ++ [⟨k, hk⟩], ?_, HJ.out⟩⟩
      rw [List.map_append, H.out.2.2.1]
      refine ⟨(List.range D).drop (k + 1), ?_⟩
      show List.range k ++ [k] ++ _ = _
      rw [← List.range_succ]
      have : List.range (k + 1) = (List.range D).take (k + 1) := by rw [List.take_range, Nat.min_eq_left (by omega)]
      rw [this, List.take_append_drop]
  · have h6 : k = D := by omega
    subst h6
    gi_wp2
    go_end0
    exact ⟨⟨_, rfl⟩, .inl ⟨pre, h3, hJ⟩⟩
theorem chunks_stops (n b1 b2 g D : Nat) (hD : D ≤ 1000) (w : World) (h3 : b1 < w.heap.size) (h4 : b2 < w.heap.size) (h1 : w.cell? ⟨b1, 0, none⟩ = some (.slice (some ⟨g, 0, none⟩) (D * 44) (D * 44))) (h2 : w.cell? ⟨b2, 0, none⟩ = some (.int .i64 44)) :
 SeqStopsK Fence.wide n Tryz.prog 188 #[.pointer (some ⟨b1, 0, none⟩), .pointer (some ⟨b2, 0, none⟩)] (encCh g (D := D)) (Kp2 b1 b2) (fun ys => ys.map (·.1) = List.range D) (fun pre => pre.map (·.1) <+: List.range D) D w := fun l J Jx W hW hJ _ hY h0 =>
 chunks1_in n l b1 b2 g D hD J Jx (fun pre X h => hJ pre X X.drew none h ⟨rfl, rfl, rfl, Nat.le_refl _, fun _ _ _ => rfl⟩ (fun r e => by cases e)) hY W ((hW.cell (p := ⟨b1, 0, none⟩) h3).trans h1) ((hW.cell (p := ⟨b2, 0, none⟩) h4).trans h2) h0
theorem chunk_any (g D : Nat) (w : World) :
 Calls Tryz.prog 175 #[.slice (some ⟨g, 0, none⟩) (D * 44) (D * 44), .int .i64 44] w fun e w' => e = .returned (.func (.func 188) #[] #[.pointer (some ⟨w.heap.size, 0, none⟩), .pointer (some ⟨w.heap.size + 1, 0, none⟩)]) ∧ w' = (w.alloc (.cells #[.slice (some ⟨g, 0, none⟩) (D * 44) (D * 44)] 31)).alloc (.cells #[.int .i64 44] 3) := by
 generalize D * 44 = dd
 have h0 : ∀ (fn : Fn) (first cap : Array Value) (w : World), (Instr.makeFunc fn first cap).run Tryz.prog w = .ok (.func fn first cap) w := fun _ _ _ _ => rfl
 go_enter Tryz.func175, Tryz.ntmps175
 go_wp2
 go_ret
 exact ⟨rfl, rfl⟩
end
theorem catch_idle (p : Addr) (w : World) : CallsD Tryz.prog 90 #[.pointer (some p)] .returning w fun e u' w' => e = .returned (.tuple #[]) ∧ u' = .returning ∧ w' = w := by
 refine callsD_of_wpS Tryz.func90 rfl fun c₀ cs hu => ?_
 have hn : ∀ w, (binOp .eql 20 .nilIface .nilIface).run Tryz.prog w = .ok (.bool true) w := fun w => by
  have h0 : ∀ d, (Op.equalIn (d + 1) 20 .nilIface .nilIface).run Tryz.prog w = .ok true w := fun d => by
   simp only [Op.equalIn, Sem.run_bind, run_underlying Tryz.underlying20, Result.andThen_ok]
   rfl
  have he := h0 9999
  simp only [binOp]
  simp [Op.equal, Op.maxDepth, he]
 apply wpS_seq
 apply wpS_region
 generalize hN : Code.wpS Tryz.prog _ _ = N
 simp [wpOpsS, go_sem, recoverD, hu, Tryz.ntmps90, Exit.thenS]
 rw [← hN]
 clear hN
 refine wpS_of_wp ?_
 simp only [Array.replicate_succ, Array.replicate_zero, List.push_toArray, List.nil_append, List.cons_append, List.setIfInBounds_toArray, List.set_cons_succ, List.set_cons_zero, List.append_toArray]
 go_wp2
 cases c₀
 simp_all [bodyPostS, results, Tryz.results90]
def isErr (v : Value) : Prop := v = .nilIface ∨ ∃ t u, v = .iface t u
theorem powered_ok (k : FuncId) (first cap : Array Value) (h3 : ∀ (args : Array Value) (w : World), (callFunc k args).run Tryz.prog w = .ok (.enter k args) w) (w : World) (R : World → Value → World → Prop)
 (h2 : ∀ w1, Below w.heap.size w w1 → w1.heap.size = w.heap.size + 1 → Calls Tryz.prog k (first ++ cap) w1 fun e w2 => ∃ v, e = .returned v ∧ isErr v ∧ R w1 v w2 ∧ w2.heap[w.heap.size]? = w1.heap[w.heap.size]?) :
 Calls Tryz.prog 57 #[.func (.func k) first cap] w fun e w' => ∃ v w1 w2, e = .returned v ∧ isErr v ∧ Below w.heap.size w w1 ∧ w1.heap.size = w.heap.size + 1 ∧ R w1 v w2 ∧ w' = w2.setCell ⟨w.heap.size, 0, none⟩ v := by
 have h4 : ∀ (fn : Fn) (first cap : Array Value) (w : World), (Instr.makeFunc fn first cap).run Tryz.prog w = .ok (.func fn first cap) w := fun _ _ _ _ => rfl
 have hc := h2 (w.alloc (.cells #[.nilIface] 49)) ((Below.refl _ w).alloc (Nat.le_refl _) _) (by simp)
 have h0 : (w.alloc (.cells #[.nilIface] 49)).heap[w.heap.size]? = some (.cells #[.nilIface] 49 (0, 0)) := blk_alloc_new _ _
 go_enter_defers Tryz.func57, Tryz.ntmps57
 go_wp2_with fail
 refine hc.mono ?_
 clear hc
 rintro e w2 ⟨v, rfl, hv, hR, h1⟩
 have ht : w2.heap[w.heap.size]? = some (.cells #[.nilIface] 49 (0, 0)) := h1.trans h0
 have c2 : w2.cell? ⟨w.heap.size, 0, none⟩ = some .nilIface := by simp [World.cell?, ht]
 have f2 : w2.frozen? ⟨w.heap.size, 0, none⟩ = false := by simp [World.frozen?, ht]
 have c3 : (w2.setCell ⟨w.heap.size, 0, none⟩ v).cell? ⟨w.heap.size, 0, none⟩ = some v := by simp [World.cell?, World.setCell, Array.getElem?_modify, ht]
 have H := hide2 hR hv
 clear hR h1 ht h0 h2
 rcases hv with rfl | ⟨t, u, rfl⟩
 · go_wp2
   refine leaves_cons (f := 90) (args := #[.pointer (some ⟨w.heap.size, 0, none⟩)]) (by simp) (by simp [go_sem]) ?_
   refine (catch_idle ⟨w.heap.size, 0, none⟩ _).mono ?_
   rintro e u' w'' ⟨rfl, rfl, rfl⟩
   refine ⟨.nilIface, by simp [results, Tryz.results57, go_sem, c3], _, _, w2, rfl, .inl rfl, (Below.refl _ w).alloc (Nat.le_refl _) (.cells #[.nilIface] 49), by simp, H.out.1, rfl⟩
 · go_wp2
   refine leaves_cons (f := 90) (args := #[.pointer (some ⟨w.heap.size, 0, none⟩)]) (by simp) (by simp [go_sem]) ?_
   refine (catch_idle ⟨w.heap.size, 0, none⟩ _).mono ?_
   rintro e u' w'' ⟨rfl, rfl, rfl⟩
   refine ⟨.iface t u, by simp [results, Tryz.results57, go_sem, c3], _, _, w2, rfl, .inr ⟨t, u, rfl⟩, (Below.refl _ w).alloc (Nat.le_refl _) (.cells #[.nilIface] 49), by simp, H.out.1, rfl⟩
theorem recentNew_any (n : Int) (w : World) : Calls Tryz.prog 117 #[.int .i64 n] w fun e w' => ∃ b, e = .returned (.pointer (some ⟨b, 0, none⟩)) ∧ w.heap.size ≤ b ∧ Below w.heap.size w w' := by
 have h0 : ∀ w, (Instr.makeMap 246 none).run Tryz.prog w = .ok (.map (some w.heap.size)) (w.alloc (.map #[] 0)) := fun _ => rfl
 have h1 : ∀ o1 o2 o3 : Obj, Below w.heap.size w (((w.alloc o1).alloc o2).alloc o3) := fun o1 o2 o3 => (((Below.refl _ w).alloc (Nat.le_refl _) _).alloc (by simp) _).alloc (by simp; omega) _
 have H := hide h1
 clear h1
 go_enter Tryz.func117, Tryz.ntmps117
 go_wp2
 go_ret
 exact ⟨_, rfl, by omega, H.out _ _ _⟩
theorem newShelf_any (n : Int) (w : World) : Calls Tryz.prog 76 #[.int .i64 n] w fun e w' => ∃ b, e = .returned (.pointer (some ⟨b, 0, none⟩)) ∧ w.heap.size ≤ b ∧ Below w.heap.size w w' := by
 go_enter Tryz.func76, Tryz.ntmps76
 go_wp2_with fail
 refine (recentNew_any n w).mono ?_
 rintro e w1 ⟨b, rfl, hb, h0⟩
 have H := hide h0
 have hz := h0.size
 clear h0
 go_wp2
 go_ret
 exact ⟨_, rfl, hz, H.out.trans ((Below.refl _ w1).alloc hz _)⟩
noncomputable def RVn : Array Oper := ((Tryz.f53.body.bind (rgf · 1))).getD #[]
def shVn : List (Op × Option Nat × List Nat) := [(Op.move (.tmp 0), some 7, []),
 (Op.load 25 (.tmp 4), some 8, []),
 (Op.move (.tmp 2), some 9, []),
 (Op.call { callee := Callee.value (Operand.func 76), args := #[.tmp 9], argTypes := #[3] }, some 10, [2]),
 (Op.build 121 #[(0, .tmp 7), (1, .tmp 8), (2, .tmp 10)], some 11, [0, 1, 3]),
 (Op.box 121 (.tmp 11), some 12, [4]),
 (Op.assign (.tmp 12), some 6, [5, 3, 0, 1, 2, 3, 4, 5])]
theorem RVn_shape : RegShape RVn 6 13 shVn := regShape (by kernel_rfl) (by kernel_rfl)
def VVn (w0 : World) (p D L G : Nat) (n : Int) (i : Nat) (u : Value) (w : World) : Prop := match i with
 | 0 => u = .pointer (some ⟨p, 0, none⟩)
 | 1 => u = .agg #[.int .i64 D, .int .i64 L, .int .i64 G]
 | 2 => u = .int .i64 n
 | 3 => ∃ b, u = .pointer (some ⟨b, 0, none⟩)
 | 4 => ∃ b, u = .agg #[.pointer (some ⟨p, 0, none⟩), .int .i64 D, .int .i64 L, .int .i64 G, .pointer (some ⟨b, 0, none⟩), .int .u64 0]
 | 5 | 6 => ∃ v b, u = .pointer (some ⟨v, 0, none⟩) ∧ w0.heap.size ≤ v ∧ VolAt w v p D L G b 0
 | _ => True
theorem volNew_region {p L G q : Nat} {n : Int} (h7 : RVn = ops) (hq : w.heap[q]? = some (.cells #[.int .i64 (D : Int), .int .i64 (L : Int), .int .i64 (G : Int)] 25 (0, 0))) (hj : a.tmps.size = 13)
 (e0 : a.eval (.tmp 0) = .pointer (some ⟨p, 0, none⟩)) (e4 : a.eval (.tmp 4) = .pointer (some ⟨q, 0, none⟩)) (e2 : a.eval (.tmp 2) = .int .i64 n)
 (hQ : ∀ (w' : World) (vs : List Value) (v b : Nat), vs.length = 6 → w.heap.size ≤ v → VolAt w' v p D L G b 0 → Below w.heap.size w w' → Q .normal (Act.putFrom a 6 (.pointer (some ⟨v, 0, none⟩) :: vs)) w') : (Code.region 1 ops true).wp Tryz.prog Q a w := by
 subst h7
 have hc : q < w.heap.size := (Array.getElem?_eq_some_iff.1 hq).1
 refine region_facts (by kernel_rfl) RVn_shape a w (by omega) (VVn w p D L G n) (fun _ w' => Below w.heap.size w w') ((Below.refl _ w).drew) ?_ ?_
 · intro i hi
   have h8 : ∀ (w' w'' : World), Below w'.heap.size w' w'' → ∀ j u, VVn w p D L G n j u w' → VVn w p D L G n j u w'' := fun w' w'' hb j u h => by
    match j, h with
    | 0, h | 1, h | 2, h | 3, h | 4, h => exact h
    | 5, ⟨v, b, h1, h2, h3⟩ => exact ⟨v, b, h1, h2, h3.keep (hb.block _ h3.lt)⟩
    | 6, ⟨v, b, h1, h2, h3⟩ => exact ⟨v, b, h1, h2, h3.keep (hb.block _ h3.lt)⟩
    | j + 7, _ => trivial
   match i, hi with
   | 0, _ => exact fun o a' w' Dn hg ho h0 hk h5 h6 h4 hB hV => op_val (run_op_move ho ((hk.slot 0 (by omega)).trans e0) w') h0 ⟨hB, rfl, kq⟩
   | 1, _ =>
    intro o a' w' Dn hg ho h0 hk h5 h6 h4 hB hV
    have u0 : a'.eval (.tmp 4) = .pointer (some ⟨q, 0, none⟩) := (hk.slot 4 (by omega)).trans e4
    have he : w'.heap[q]? = _ := (hB.block q hc).trans hq
    have hf : (Instr.loadAt 25 (.pointer (some ⟨q, 0, none⟩))).run Tryz.prog w' = .ok (.agg #[.int .i64 (D : Int), .int .i64 (L : Int), .int .i64 (G : Int)]) w' := by
     simp only [Instr.loadAt, Instr.sureAddr, Sem.run_bind, Sem.run_pure, Result.andThen_ok, run_loadVar_row w' q 25 25 #[.int .i64 (D : Int), .int .i64 (L : Int), .int .i64 (G : Int)] (0, 0) _ he Tryz.underlying25 rfl (by kernel_rfl)]
    exact op_val (v := .agg #[.int .i64 D, .int .i64 L, .int .i64 G]) (by simp [execOp, show o.op = Op.load 25 (.tmp 4) from ho, u0, hf]) h0 ⟨hB, rfl, kq⟩
   | 2, _ => exact fun o a' w' Dn hg ho h0 hk h5 h6 h4 hB hV => op_val (run_op_move ho ((hk.slot 2 (by omega)).trans e2) w') h0 ⟨hB, rfl, kq⟩
   | 3, _ =>
    intro o a' w' Dn hg ho h0 hk h5 h6 h4 hB hV
    have u0 : a'.eval (.tmp 9) = .int .i64 n := hV 2 (h4 2 (by decide))
    refine op_call (f := 76) (args := #[.int .i64 n]) (w1 := w') (by simp only [execOp, show o.op = Op.call { callee := Callee.value (Operand.func 76), args := #[.tmp 9], argTypes := #[3] } from ho]; go_simp; simpa [Act.eval] using u0) h0 (newShelf_any n w') ?_
    rintro e w'' ⟨b, rfl, hb, h9⟩
    exact ⟨_, rfl, hB.trans (h9.mono hB.size), ⟨b, rfl⟩, fun j u _ h => h8 w' w'' h9 j u h⟩
   | 4, _ =>
    intro o a' w' Dn hg ho h0 hk h5 h6 h4 hB hV
    have u0 : a'.eval (.tmp 7) = .pointer (some ⟨p, 0, none⟩) := hV 0 (h4 0 (by decide))
    have u1 : a'.eval (.tmp 8) = .agg #[.int .i64 D, .int .i64 L, .int .i64 G] := hV 1 (h4 1 (by decide))
    obtain ⟨b, u2⟩ : VVn w p D L G n 3 (a'.eval (.tmp 10)) w' := hV 3 (h4 3 (by decide))
    exact op_val (v := .agg #[.pointer (some ⟨p, 0, none⟩), .int .i64 D, .int .i64 L, .int .i64 G, .pointer (some ⟨b, 0, none⟩), .int .u64 0]) (by simp only [execOp, show o.op = Op.build 121 #[(0, .tmp 7), (1, .tmp 8), (2, .tmp 10)] from ho, List.map_toArray, List.map_cons, List.map_nil, u0, u1, u2]; go_simp) h0 ⟨hB, ⟨b, rfl⟩, kq⟩
   | 5, _ =>
    intro o a' w' Dn hg ho h0 hk h5 h6 h4 hB hV
    obtain ⟨b, u0⟩ : VVn w p D L G n 4 (a'.eval (.tmp 11)) w' := hV 4 (h4 4 (by decide))
    have ha : Below w'.heap.size w' (w'.alloc (.cells #[.pointer (some ⟨p, 0, none⟩), .int .i64 D, .int .i64 L, .int .i64 G, .pointer (some ⟨b, 0, none⟩), .int .u64 0] 121)) := (Below.refl _ w').alloc (Nat.le_refl _) _
    exact op_val (v := .pointer (some ⟨w'.heap.size, 0, none⟩)) (w' := w'.alloc (.cells #[.pointer (some ⟨p, 0, none⟩), .int .i64 D, .int .i64 L, .int .i64 G, .pointer (some ⟨b, 0, none⟩), .int .u64 0] 121)) (by simp only [execOp, show o.op = Op.box 121 (.tmp 11) from ho, u0]; go_simp) h0 ⟨hB.trans (ha.mono hB.size), ⟨_, b, rfl, hB.size, blk_alloc_new _ _⟩, fun j u _ h => h8 w' _ ha j u h⟩
   | 6, _ =>
    intro o a' w' Dn hg ho h0 hk h5 h6 h4 hB hV
    obtain ⟨v, b, u0, h1, h2⟩ : VVn w p D L G n 5 (a'.eval (.tmp 12)) w' := hV 5 (h4 5 (by decide))
    exact op_val (v := .pointer (some ⟨v, 0, none⟩)) (by simp [execOp, show o.op = Op.assign (.tmp 12) from ho, u0]) h0 ⟨hB, ⟨v, b, rfl, h1, h2⟩, kq⟩
   | n + 7, hn => exact absurd hn (by show ¬ n + 7 < 7; omega)
 · rintro a' w' hh ⟨Dn, hD, hB⟩ hV
   obtain ⟨v, b, u0, h1, h2⟩ : VVn w p D L G n 6 (a'.eval (.tmp 6)) w' := hV 6 (by decide)
   have e : a' = Act.putFrom a 6 (.pointer (some ⟨v, 0, none⟩) :: (List.range 6).map fun i => a'.eval (.tmp (7 + i))) := hh.out _ (by simp) (by omega) (fun i hi => by
    simp at hi
    cases i with
    | zero => exact u0
    | succ i =>
     rw [List.getD_cons_succ, List.getD_eq_getElem?_getD, List.getElem?_map, List.getElem?_range (by omega), show 6 + (i + 1) = 7 + i by omega]; rfl)
   rw [e]
   exact hQ w' _ v b (by rw [List.length_map, List.length_range]) h1 h2 hB
theorem volNew_any (p D L G : Nat) (n : Int) (w : World) : Calls Tryz.prog 53 #[.pointer (some ⟨p, 0, none⟩), .agg #[.int .i64 D, .int .i64 L, .int .i64 G], .int .i64 n] w fun e w' => ∃ v b, e = .returned (.pointer (some ⟨v, 0, none⟩)) ∧ w.heap.size ≤ v ∧ VolAt w' v p D L G b 0 ∧ Below w.heap.size w w' := by
 have hq := blk_alloc_new w (.cells #[.int .i64 (D : Int), .int .i64 (L : Int), .int .i64 (G : Int)] 25)
 have h0 : Below w.heap.size w (w.alloc (.cells #[.int .i64 (D : Int), .int .i64 (L : Int), .int .i64 (G : Int)] 25)) := (Below.refl _ w).alloc (Nat.le_refl _) _
 have hz : (w.alloc (.cells #[.int .i64 (D : Int), .int .i64 (L : Int), .int .i64 (G : Int)] 25)).heap.size = w.heap.size + 1 := by simp
 go_enter Tryz.func53, Tryz.ntmps53
 go_wp2_with fail
 refine volNew_region (by kernel_rfl) hq rfl rfl rfl rfl ?_
 intro w' vs v b h1 hv hV hb
 obtain ⟨x0, x1, x2, x3, x4, x5, rfl⟩ := list6 h1
 rw [hz] at hv hb
 have H := hide2 hV (h0.trans (hb.mono (by omega)))
 clear hV hb h0 hq hz h1
 rename_i hK
 refine hK _ _ ?_
 clear hK
 simp only [Act.putFrom, Act.put, List.setIfInBounds_toArray, List.set_cons_succ, List.set_cons_zero]
 go_wp2
 go_ret
 exact ⟨v, b, rfl, by omega, H.out.1, H.out.2⟩
section
open Go.Extern.Stop Go.Stop Go.Extern
theorem Tryz.valueOfP (t : Addr) (w : World) : (ReflectliteValue.unpack (.iface 88 (.pointer (some t)))).run Tryz.prog w
 = .ok (.agg #[.pointer (some ⟨3, 88, none⟩), .pointer (some ⟨w.heap.size, 0, none⟩), .int .u64 150]) (w.alloc (.cells #[.pointer (some t)] 88)) := by kernel_rfl
theorem Tryz.typeP (a : Addr) (w : World) : (ReflectliteValue.methodAny (ReflectliteValue.valueError "reflectlite.Value.Type" 0) (fun t _ _ _ => ReflectliteType.toType t) #[.agg #[.pointer (some ⟨3, 88, none⟩), .pointer (some a), .int .u64 150]]).run Tryz.prog w
 = .ok (.iface 132 (.agg #[.pointer (some ⟨3, 88, none⟩)])) w := by kernel_rfl
theorem Tryz.methodKind (h : Value) (w : World) : (Go.method 459 132 (.agg #[h]) "Kind").run Tryz.prog w = .ok (225, h) w := by kernel_rfl
theorem Tryz.kindP (w : World) : ((ReflectliteType.abiMethod fun t => (fun a : Nat => Value.int IntKind.u8 (a : Int)) <$> Rtype.kind t) #[.pointer (some ⟨3, 88, none⟩)]).run Tryz.prog w = .ok (.int .u8 22) w := by kernel_rfl
theorem Tryz.kindE (w : World) : ((ReflectliteType.abiMethod fun t => (fun a : Nat => Value.int IntKind.u8 (a : Int)) <$> Rtype.kind t) #[.pointer (some ⟨3, 52, none⟩)]).run Tryz.prog w = .ok (.int .u8 2) w := by kernel_rfl
theorem Tryz.partsP (a : Addr) (w : World) : (ReflectliteValue.parts (.agg #[.pointer (some ⟨3, 88, none⟩), .pointer (some a), .int .u64 150])).run Tryz.prog w = .ok (some (88, a, 150)) w := by kernel_rfl
theorem Tryz.isNilP (a p : Addr) (W : World) (ha : W.cell? a = some (.pointer (some p))) :
 (ReflectliteValue.method (ReflectliteValue.valueError "reflectlite.Value.IsNil" 0) ReflectliteValue.isNil #[.agg #[.pointer (some ⟨3, 88, none⟩), .pointer (some a), .int .u64 150]]).run Tryz.prog W = .ok (.bool false) W := by
 refine Eq.trans (congrArg (fun z => Sem.run Tryz.prog z W) (show ReflectliteValue.method _ _ #[.agg #[.pointer (some ⟨3, 88, none⟩), .pointer (some a), .int .u64 150]] = (ReflectliteValue.parts (.agg #[.pointer (some ⟨3, 88, none⟩), .pointer (some a), .int .u64 150]) >>= _) from rfl)) ?_
 simp only [Sem.run_bind, Tryz.partsP, Result.andThen]
 simp [ReflectliteValue.isNil, loadVar, isAgg, underlying, Tryz.underlying88, ha, Result.andThen]
theorem Tryz.methodElem (h : Value) (w : World) : (Go.method 459 132 (.agg #[h]) "Elem").run Tryz.prog w = .ok (238, .agg #[h]) w := by kernel_rfl
theorem Tryz.methodImplements (h : Value) (w : World) : (Go.method 459 132 (.agg #[h]) "Implements").run Tryz.prog w = .ok (239, .agg #[h]) w := by kernel_rfl
theorem Tryz.methodAssignableTo (h : Value) (w : World) : (Go.method 459 132 (.agg #[h]) "AssignableTo").run Tryz.prog w = .ok (236, .agg #[h]) w := by kernel_rfl
theorem Tryz.elemP (w : World) : (ReflectliteType.method ReflectliteType.elem #[.agg #[.pointer (some ⟨3, 88, none⟩)]]).run Tryz.prog w = .ok (.iface 132 (.agg #[.pointer (some ⟨3, 52, none⟩)])) w := by kernel_rfl
theorem Tryz.implementsE (w : World) : (ReflectliteType.relation "Implements" ReflectliteType.implements_ #[.agg #[.pointer (some ⟨3, 52, none⟩)], .iface 132 (.agg #[.pointer (some ⟨3, 49, none⟩)])]).run Tryz.prog w = .ok (.bool true) w := by kernel_rfl
theorem Tryz.typeOfE (v : Value) (w : World) : (ReflectliteType.typeOf #[.iface 52 v]).run Tryz.prog w = .ok (.iface 132 (.agg #[.pointer (some ⟨3, 52, none⟩)])) w := by kernel_rfl
theorem Tryz.assignableE (w : World) : (ReflectliteType.relation "AssignableTo" ReflectliteType.assignableTo #[.agg #[.pointer (some ⟨3, 52, none⟩)], .iface 132 (.agg #[.pointer (some ⟨3, 52, none⟩)])]).run Tryz.prog w = .ok (.bool true) w := by kernel_rfl
theorem Tryz.valueOfE (x : Int) (w : World) : (ReflectliteValue.unpack (.iface 52 (.int .i64 x))).run Tryz.prog w
 = .ok (.agg #[.pointer (some ⟨3, 52, none⟩), .pointer (some ⟨w.heap.size, 0, none⟩), .int .u64 130]) (w.alloc (.cells #[.int .i64 x] 52)) := by kernel_rfl
theorem Tryz.elemOfP (w : World) : (Rtype.elem? 88).run Tryz.prog w = .ok (some 52) w := by kernel_rfl
theorem Tryz.mkE (p : Addr) (w : World) : (ReflectliteValue.mk 52 p ReflectliteValue.flagAddr).run Tryz.prog w = .ok (.agg #[.pointer (some ⟨3, 52, none⟩), .pointer (some p), .int .u64 386]) w := by kernel_rfl
theorem Tryz.elemVP (a p : Addr) (W : World) (ha : W.cell? a = some (.pointer (some p))) :
 (ReflectliteValue.method (ReflectliteValue.valueError "reflectlite.Value.Elem" 0) ReflectliteValue.elem #[.agg #[.pointer (some ⟨3, 88, none⟩), .pointer (some a), .int .u64 150]]).run Tryz.prog W
  = .ok (.agg #[.pointer (some ⟨3, 52, none⟩), .pointer (some p), .int .u64 386]) W := by
 refine Eq.trans (congrArg (fun z => Sem.run Tryz.prog z W) (show ReflectliteValue.method _ _ #[.agg #[.pointer (some ⟨3, 88, none⟩), .pointer (some a), .int .u64 150]] = (ReflectliteValue.parts (.agg #[.pointer (some ⟨3, 88, none⟩), .pointer (some a), .int .u64 150]) >>= _) from rfl)) ?_
 simp only [Sem.run_bind, Tryz.partsP, Result.andThen]
 simp [ReflectliteValue.elem, loadVar, isAgg, underlying, Tryz.underlying88, ha, Result.andThen, Tryz.elemOfP, Tryz.mkE]
theorem Tryz.partsEa (a : Addr) (w : World) : (ReflectliteValue.parts (.agg #[.pointer (some ⟨3, 52, none⟩), .pointer (some a), .int .u64 386])).run Tryz.prog w = .ok (some (52, a, 386)) w := by kernel_rfl
theorem Tryz.partsE (a : Addr) (w : World) : (ReflectliteValue.parts (.agg #[.pointer (some ⟨3, 52, none⟩), .pointer (some a), .int .u64 130])).run Tryz.prog w = .ok (some (52, a, 130)) w := by kernel_rfl
theorem Tryz.directE (w : World) : (Rtype.directlyAssignable 52 52).run Tryz.prog w = .ok true w := by kernel_rfl
theorem Tryz.setE (ta b : Addr) (x : Int) (old : Value) (W : World) (hb : W.cell? b = some (.int .i64 x)) (ht : W.cell? ta = some old) (hf : W.frozen? ta = false) :
 (ReflectliteValue.set #[.agg #[.pointer (some ⟨3, 52, none⟩), .pointer (some ta), .int .u64 386], .agg #[.pointer (some ⟨3, 52, none⟩), .pointer (some b), .int .u64 130]]).run Tryz.prog W
  = .ok (.tuple #[]) (W.setCell ta (.int .i64 x)) := by
 refine Eq.trans (congrArg (fun z => Sem.run Tryz.prog z W) (show ReflectliteValue.set #[.agg #[.pointer (some ⟨3, 52, none⟩), .pointer (some ta), .int .u64 386], .agg #[.pointer (some ⟨3, 52, none⟩), .pointer (some b), .int .u64 130]] = (ReflectliteValue.parts (.agg #[.pointer (some ⟨3, 52, none⟩), .pointer (some ta), .int .u64 386]) >>= fun p => ReflectliteValue.parts (.agg #[.pointer (some ⟨3, 52, none⟩), .pointer (some b), .int .u64 130]) >>= (_ : _ → Sem Value)) from rfl)) ?_
 simp only [Sem.run_bind, Tryz.partsEa, Tryz.partsE, Result.andThen]
 simp [ReflectliteValue.flagAddr, loadVar, isAgg, underlying, Tryz.underlying52, hb, Result.andThen, Tryz.directE, storeVar, Value.cells, storeCells, Addr.add]
 rw [run_store Tryz.prog W ta _ _ (by rfl)]
 simp [ht, hf]
theorem as_hit (x : Int) (t : Addr) (old : Value) (w : World) (hg : w.cell? ⟨0, 0, none⟩ = some (.iface 132 (.agg #[.pointer (some ⟨3, 49, none⟩)]))) (h1 : w.cell? t = some old) (h3 : w.frozen? t = false) :
 Calls Tryz.prog 30 #[.iface 52 (.int .i64 x), .iface 88 (.pointer (some t))] w fun ev w' => ev = .returned (.bool true) ∧ w' = ((((w.alloc (.cells #[.pointer (some t)] 88)).alloc (.cells #[.pointer (some ⟨3, 88, none⟩), .pointer (some ⟨w.heap.size, 0, none⟩), .int .u64 150] 95)).alloc (.cells #[.pointer (some ⟨3, 88, none⟩), .pointer (some ⟨w.heap.size, 0, none⟩), .int .u64 150] 95)).alloc (.cells #[.int .i64 x] 52)).setCell t (.int .i64 x) := by
 have h6 := @run_callFunc_extern Tryz.prog 41 _ (fun args => ReflectliteValue.unpack (args.getD 0 (.tuple #[]))) Tryz.func41 (by kernel_rfl) (by kernel_rfl) (by kernel_rfl) (by kernel_rfl)
 have h7 := @run_callFunc_extern Tryz.prog 42 _ (ReflectliteValue.methodAny (ReflectliteValue.valueError "reflectlite.Value.Type" 0) (fun t _ _ _ => ReflectliteType.toType t)) Tryz.func42 (by kernel_rfl) (by kernel_rfl) (by kernel_rfl) (by kernel_rfl)
 have h8 := @run_callFunc_extern Tryz.prog 43 _ (ReflectliteValue.method (ReflectliteValue.valueError "reflectlite.Value.IsNil" 0) ReflectliteValue.isNil) Tryz.func43 (by kernel_rfl) (by kernel_rfl) (by kernel_rfl) (by kernel_rfl)
 have h5 := @run_callFunc_extern Tryz.prog 225 _ (ReflectliteType.abiMethod fun t => do pure (.int .u8 (← Rtype.kind t))) Tryz.func225 (by kernel_rfl) (by kernel_rfl) (by kernel_rfl) (by kernel_rfl)
 have h9 := @run_callFunc_extern Tryz.prog 238 _ (ReflectliteType.method ReflectliteType.elem) Tryz.func238 (by kernel_rfl) (by kernel_rfl) (by kernel_rfl) (by kernel_rfl)
 have ha := @run_callFunc_extern Tryz.prog 239 _ (ReflectliteType.relation "Implements" ReflectliteType.implements_) Tryz.func239 (by kernel_rfl) (by kernel_rfl) (by kernel_rfl) (by kernel_rfl)
 have hc := @run_callFunc_extern Tryz.prog 64 _ ReflectliteType.typeOf Tryz.func64 (by kernel_rfl) (by kernel_rfl) (by kernel_rfl) (by kernel_rfl)
 have he := @run_callFunc_extern Tryz.prog 236 _ (ReflectliteType.relation "AssignableTo" ReflectliteType.assignableTo) Tryz.func236 (by kernel_rfl) (by kernel_rfl) (by kernel_rfl) (by kernel_rfl)
 have hf := @run_callFunc_extern Tryz.prog 65 _ (ReflectliteValue.method (ReflectliteValue.valueError "reflectlite.Value.Elem" 0) ReflectliteValue.elem) Tryz.func65 (by kernel_rfl) (by kernel_rfl) (by kernel_rfl) (by kernel_rfl)
 have hh := @run_callFunc_extern Tryz.prog 66 _ ReflectliteValue.set Tryz.func66 (by kernel_rfl) (by kernel_rfl) (by kernel_rfl) (by kernel_rfl)
 have tO := Tryz.typeOfE
 have mA := Tryz.methodAssignableTo
 have aE := Tryz.assignableE
 have vE := Tryz.valueOfE
 have f6 := Tryz.valueOfP
 have f7 := Tryz.typeP
 have mK := Tryz.methodKind
 have mE := Tryz.methodElem
 have mI := Tryz.methodImplements
 have kP := Tryz.kindP
 have kE := Tryz.kindE
 have eP := Tryz.elemP
 have iE := Tryz.implementsE
 have n8 := Tryz.isNilP ⟨w.heap.size, 0, none⟩ t ((w.alloc (.cells #[.pointer (some t)] 88)).alloc (.cells #[.pointer (some ⟨3, 88, none⟩), .pointer (some ⟨w.heap.size, 0, none⟩), .int .u64 150] 95)) (by simp)
 have h4 : 0 < w.heap.size := by
  rcases Nat.eq_zero_or_pos w.heap.size with h0 | h
  · simp [World.cell?, h0] at hg
  · exact h
 have hi : ((w.alloc (.cells #[.pointer (some t)] 88)).alloc (.cells #[.pointer (some ⟨3, 88, none⟩), .pointer (some ⟨w.heap.size, 0, none⟩), .int .u64 150] 95)).cell? ⟨0, 0, none⟩ = some (.iface 132 (.agg #[.pointer (some ⟨3, 49, none⟩)])) := by
  rw [World.cell?_alloc_lt _ _ ⟨0, 0, none⟩ (by simp), World.cell?_alloc_lt _ _ ⟨0, 0, none⟩ h4]; exact hg
 have h2 : t.block < w.heap.size := by
  rcases Nat.lt_or_ge t.block w.heap.size with h | h
  · exact h
  · simp [World.cell?, Array.getElem?_eq_none h] at h1
 have el := Tryz.elemVP ⟨w.heap.size, 0, none⟩ t (((w.alloc (.cells #[.pointer (some t)] 88)).alloc (.cells #[.pointer (some ⟨3, 88, none⟩), .pointer (some ⟨w.heap.size, 0, none⟩), .int .u64 150] 95)).alloc (.cells #[.pointer (some ⟨3, 88, none⟩), .pointer (some ⟨w.heap.size, 0, none⟩), .int .u64 150] 95)) (by rw [World.cell?_alloc_lt _ _ ⟨w.heap.size, 0, none⟩ (by simp; omega)]; simp)
 have st := Tryz.setE t ⟨w.heap.size + 1 + 1 + 1, 0, none⟩ x old ((((w.alloc (.cells #[.pointer (some t)] 88)).alloc (.cells #[.pointer (some ⟨3, 88, none⟩), .pointer (some ⟨w.heap.size, 0, none⟩), .int .u64 150] 95)).alloc (.cells #[.pointer (some ⟨3, 88, none⟩), .pointer (some ⟨w.heap.size, 0, none⟩), .int .u64 150] 95)).alloc (.cells #[.int .i64 x] 52))
  (by rw [World.cell?_alloc_at _ _ _ _ (by simp)]; rfl)
  (by rw [World.cell?_alloc_lt _ _ t (by simp; omega), World.cell?_alloc_lt _ _ t (by simp; omega), World.cell?_alloc_lt _ _ t (by simp; omega), World.cell?_alloc_lt _ _ t h2]; exact h1)
  (by rw [World.frozen?_alloc_old _ _ t (by simp; omega), World.frozen?_alloc_old _ _ t (by simp; omega), World.frozen?_alloc_old _ _ t (by simp; omega), World.frozen?_alloc_old _ _ t (Nat.ne_of_lt h2)]; exact h3)
 go_enter Tryz.func30, Tryz.ntmps30
 go_wp2
 refine wp_loop_rounds 1 ?_
 rw [rounds_succ]
 go_wp2
 go_ret
 exact ⟨rfl, rfl⟩
theorem tell_nil (w : World) :
 Calls Tryz.prog 14 #[.nilIface] w fun e w' => e = .returned (.int .i64 0) ∧ Below w.heap.size w w' := by
 go_enter Tryz.func14, Tryz.ntmps14
 go_wp2
 go_ret
 exact ⟨rfl, (Below.refl _ _).alloc (Nat.le_refl _) _⟩
theorem tell_errno (x : Int) (w : World) (hg : w.cell? ⟨0, 0, none⟩ = some (.iface 132 (.agg #[.pointer (some ⟨3, 49, none⟩)]))) :
 Calls Tryz.prog 14 #[.iface 52 (.int .i64 x)] w fun e w' => e = .returned (.int .i64 x) ∧ Below w.heap.size w w' := by
 have h1 : 0 < w.heap.size := by
  rcases Nat.eq_zero_or_pos w.heap.size with h0 | h
  · simp [World.cell?, h0] at hg
  · exact h
 have h2 : (w.alloc (.cells #[.int .i64 0] 52)).cell? ⟨0, 0, none⟩ = some (.iface 132 (.agg #[.pointer (some ⟨3, 49, none⟩)])) := by
  rw [World.cell?_alloc_lt _ _ ⟨0, 0, none⟩ h1]; exact hg
 go_enter Tryz.func14, Tryz.ntmps14
 go_wp2_with (go_at_call 30; refine (as_hit x ⟨w.heap.size, 0, none⟩ (.int .i64 0) _ h2 (by simp) (by simp)).mono ?_; rintro e w' ⟨rfl, rfl⟩)
 go_ret
 refine ⟨rfl, ?_⟩
 repeat (first | exact Below.refl _ _ | refine Below.setCell ?_ (by simp) _ | refine Below.alloc ?_ (by (try simp only [nblk_alloc]); omega) _)
theorem num_any (x : Int) (w : World) :
 Calls Tryz.prog 16 #[.int .i64 x] w fun e w' => e = .returned (.int .i64 x) ∧ w' = w := by
 go_enter Tryz.func16, Tryz.ntmps16
 go_wp2
 go_ret
 exact ⟨rfl, rfl⟩
end
theorem Tryz.infoErrno : (Tryz.prog.info? 52).map (fun i => i.comparable) = some true := by kernel_rfl
theorem eql_errno (n m : Int) (w : World) : (binOp .eql 49 (.iface 52 (.int .i64 n)) (.iface 52 (.int .i64 m))).run Tryz.prog w = .ok (.bool (n == m)) w := by
 obtain ⟨i, hi, hc⟩ := Option.map_eq_some_iff.1 Tryz.infoErrno
 have h1 : ∀ d, (Op.equalIn (d + 1) 52 (.int .i64 n) (.int .i64 m)).run Tryz.prog w = .ok (n == m) w := fun d => run_equalIn_int (w := w) d 52 .i64 .i64 n m Tryz.underlying52
 have h2 : ∀ d, (Op.equalIn (d + 1 + 1) 49 (.iface 52 (.int .i64 n)) (.iface 52 (.int .i64 m))).run Tryz.prog w = .ok (n == m) w := fun d => by
  rw [Op.equalIn]
  simp [Sem.run_bind, run_underlying Tryz.underlying49, Result.andThen_ok, typeInfo, hi, hc, h1 d]
 have he := h2 9998
 simp only [binOp]
 simp [Op.equal, Op.maxDepth, he]
theorem is2_errno (n : Int) (hn : n ≠ 13) (w : World) : Calls Tryz.prog 91 #[.iface 52 (.int .i64 n), .iface 52 (.int .i64 13), .bool true] w fun e w' => e = .returned (.bool false) ∧ w' = w := by
 have h1 : ∀ w, (binOp .eql 49 (.iface 52 (.int .i64 n)) (.iface 52 (.int .i64 13))).run Tryz.prog w = .ok (.bool false) w := fun w => by rw [eql_errno]; simp [hn]
 have a1 : ∀ w : World, (Instr.typeAssert (.iface 52 (.int .i64 n)) 49 222 true).run Tryz.prog w = .ok (.tuple #[.nilIface, .bool false]) w := fun w => run_typeAssert_lacksB Tryz.underlying222 (by kernel_rfl) (by kernel_rfl) _ _ w
 have a2 : ∀ w : World, (Instr.typeAssert (.iface 52 (.int .i64 n)) 49 140 true).run Tryz.prog w = .ok (.tuple #[.nilIface, .bool false]) w := fun w => run_typeAssert_lacksB Tryz.underlying140 (by kernel_rfl) (by kernel_rfl) _ _ w
 have a3 : ∀ w : World, (Instr.typeAssert (.iface 52 (.int .i64 n)) 49 141 true).run Tryz.prog w = .ok (.tuple #[.nilIface, .bool false]) w := fun w => run_typeAssert_lacksB Tryz.underlying141 (by kernel_rfl) (by kernel_rfl) _ _ w
 go_enter Tryz.func91, Tryz.ntmps91
 go_wp2
 refine wp_loop_rounds 1 ?_
 rw [rounds_succ]
 go_wp2
 go_ret
 exact ⟨rfl, rfl⟩
theorem is_errno (n : Int) (hn : n ≠ 13) (w : World) : Calls Tryz.prog 58 #[.iface 52 (.int .i64 n), .iface 52 (.int .i64 13)] w fun e w' => e = .returned (.bool false) ∧ w' = w := by
 have ht := Tryz.typeOfE (.int .i64 13)
 have h0 := @run_callFunc_extern Tryz.prog 64 _ Extern.ReflectliteType.typeOf Tryz.func64 (by kernel_rfl) (by kernel_rfl) (by kernel_rfl) (by kernel_rfl)
 have mC : ∀ (h : Value) (w : World), (Go.method 459 132 (.agg #[h]) "Comparable").run Tryz.prog w = .ok (237, .agg #[h]) w := fun h w => by kernel_rfl
 have hC : ∀ w : World, (callFunc 237 #[.agg #[.pointer (some ⟨3, 52, none⟩)]]).run Tryz.prog w = .ok (.value (.bool true)) w := fun w => by kernel_rfl
 go_enter Tryz.func58, Tryz.ntmps58
 go_wp2_with fail
 refine (is2_errno n hn w).mono ?_
 rintro e w' ⟨rfl, rfl⟩
 go_wp2
 go_ret
 exact ⟨rfl, rfl⟩
end Go.Proofs.YtpaemkanfnddoaaGreatDoor
