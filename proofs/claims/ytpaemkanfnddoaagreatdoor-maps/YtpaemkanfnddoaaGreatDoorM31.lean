import Derived.Test.YtpaemkanfnddoaaGreatDoorM30
set_option maxRecDepth 100000
set_option maxHeartbeats 8000000
namespace Go.Proofs.YtpaemkanfnddoaaGreatDoor
open Go.RowKit Go.Deep Gf
variable {A : Arr} {F : Foot} {cache : Int} {p D L G : Nat} {w : World}
noncomputable def ROn : Array Oper := ((Tryz.f36.body.bind (rgf · 6))).getD #[]
def shOn : List (Op × Option Nat × List Nat) := [(Op.move (.tmp 0), some 24, []),
 (Op.call { callee := Callee.value (Operand.func 52), args := #[.tmp 24], argTypes := #[36] }, some 25, [0]),
 (Op.load 25 (.tmp 4), some 26, []),
 (Op.call { callee := Callee.value (Operand.func 10), args := #[.tmp 26], argTypes := #[25] }, some 27, [2, 1]),
 (Op.binOp BinOp.neq 3 (.tmp 25) (.tmp 27) 3, some 28, [1, 3]),
 (Op.assign (.tmp 28), some 21, [4, 3])]
theorem ROn_shape : RegShape ROn 21 29 shOn := regShape (by kernel_rfl) (by kernel_rfl)
def vsOn (p n : Nat) (D L G : Nat) : List Value := [.pointer (some ⟨p, 0, none⟩), .int .i64 n, .agg #[.int .i64 D, .int .i64 L, .int .i64 G], .int .i64 ((D + L + G : Nat) : Int), .bool (!decide (n = D + L + G)), .bool (!decide (n = D + L + G))]
theorem open_region {ops : Array Oper} {Q : Exit → Act → World → Prop} {a : Act} {q : Nat} (h5 : ROn = ops) (h : ArrAt w p A F) (hf : A.fit) (hq : w.heap[q]? = some (.cells #[.int .i64 (D : Int), .int .i64 (L : Int), .int .i64 (G : Int)] 25 (0, 0))) (hD : D ≤ 12) (hL : L ≤ 4) (hG : G ≤ 4) (ha : a.tmps.size = 48)
 (e0 : a.eval (.tmp 0) = .pointer (some ⟨p, 0, none⟩)) (e4 : a.eval (.tmp 4) = .pointer (some ⟨q, 0, none⟩))
 (hQ : ∀ (w' : World), Below w.heap.size w w' → Q .normal (Act.putFrom a 21 [.bool (!decide (A.n = D + L + G)), a.eval (.tmp 22), a.eval (.tmp 23), .pointer (some ⟨p, 0, none⟩), .int .i64 A.n, .agg #[.int .i64 D, .int .i64 L, .int .i64 G], .int .i64 ((D + L + G : Nat) : Int), .bool (!decide (A.n = D + L + G))]) w') : (Code.region 6 ops true).wp Tryz.prog Q a w := by
 subst h5
 have h6 : q < w.heap.size := (Array.getElem?_eq_some_iff.1 hq).1
 have hc := hf.n
 refine region_factsS (by kernel_rfl) ROn_shape a w (by omega) (fun i u _ => u = (vsOn p A.n D L G).getD i undef) (fun _ w' => Below w.heap.size w w') ((Below.refl _ w).drew) ?_ ?_
 · intro i hi
   match i, hi with
   | 0, _ => exact fun o a' w' Dn hg ho h0 hk h3 h4 h1 hB hV => op_val (run_op_move ho ((hk.slot 0 (by omega)).trans e0) w') h0 ⟨hB, rfl, kq⟩
   | 1, _ =>
    intro o a' w' Dn hg ho h0 hk h3 h4 h1 hB hV
    have u0 : a'.eval (.tmp 24) = .pointer (some ⟨p, 0, none⟩) := hV 0 (h1 0 (by decide))
    refine op_call (f := 52) (args := #[.pointer (some ⟨p, 0, none⟩)]) (w1 := w') (by simp only [execOp, show o.op = Op.call { callee := Callee.value (Operand.func 52), args := #[.tmp 24], argTypes := #[36] } from ho]; go_simp; simpa [Act.eval] using u0) h0 (drives_any (h.below hB (Nat.le_refl _))) ?_
    rintro e w'' ⟨rfl, rfl⟩
    exact ⟨_, rfl, hB, rfl, kq⟩
   | 2, _ =>
    intro o a' w' Dn hg ho h0 hk h3 h4 h1 hB hV
    have u0 : a'.eval (.tmp 4) = .pointer (some ⟨q, 0, none⟩) := (hk.slot 4 (by omega)).trans e4
    have h7 : w'.heap[q]? = _ := (hB.block q h6).trans hq
    have h8 : (Instr.loadAt 25 (.pointer (some ⟨q, 0, none⟩))).run Tryz.prog w' = .ok (.agg #[.int .i64 (D : Int), .int .i64 (L : Int), .int .i64 (G : Int)]) w' := by
     simp only [Instr.loadAt, Instr.sureAddr, Sem.run_bind, Sem.run_pure, Result.andThen_ok, run_loadVar_row w' q 25 25 #[.int .i64 (D : Int), .int .i64 (L : Int), .int .i64 (G : Int)] (0, 0) _ h7 Tryz.underlying25 rfl (by kernel_rfl)]
    exact op_val (v := .agg #[.int .i64 D, .int .i64 L, .int .i64 G]) (by simp [execOp, show o.op = Op.load 25 (.tmp 4) from ho, u0, h8]) h0 ⟨hB, rfl, kq⟩
   | 3, _ =>
    intro o a' w' Dn hg ho h0 hk h3 h4 h1 hB hV
    have u0 : a'.eval (.tmp 26) = .agg #[.int .i64 D, .int .i64 L, .int .i64 G] := hV 2 (h1 2 (by decide))
    refine op_call (f := 10) (args := #[.agg #[.int .i64 D, .int .i64 L, .int .i64 G]]) (w1 := w') (by simp only [execOp, show o.op = Op.call { callee := Callee.value (Operand.func 10), args := #[.tmp 26], argTypes := #[25] } from ho]; go_simp; simpa [Act.eval] using u0) h0 (shards_any (D : Int) (L : Int) (G : Int) w' ⟨by omega, by omega⟩ ⟨by omega, by omega⟩ ⟨by omega, by omega⟩) ?_
    rintro e w'' ⟨rfl, hb⟩
    exact ⟨_, rfl, hB.trans (hb.mono hB.size), by show Value.int .i64 ((D : Int) + L + G) = .int .i64 ((D + L + G : Nat) : Int); congr 1, kq⟩
   | 4, _ =>
    intro o a' w' Dn hg ho h0 hk h3 h4 h1 hB hV
    have u0 : a'.eval (.tmp 25) = .int .i64 (A.n : Nat) := hV 1 (h1 1 (by decide))
    have u1 : a'.eval (.tmp 27) = .int .i64 ((D + L + G : Nat) : Int) := hV 3 (h1 3 (by decide))
    refine op_val (v := .bool (!decide (A.n = D + L + G))) ?_ h0 ⟨hB, rfl, kq⟩
    simp only [execOp, show o.op = Op.binOp BinOp.neq 3 (.tmp 25) (.tmp 27) 3 from ho, u0, u1]
    by_cases e : A.n = D + L + G
    · rw [e]; go_simp
    · have e' : ¬ ((A.n : Nat) : Int) = ((D + L + G : Nat) : Int) := by omega
      rw [decide_eq_false e]
      generalize ((D + L + G : Nat) : Int) = q at *
      go_simp
   | 5, _ =>
    intro o a' w' Dn hg ho h0 hk h3 h4 h1 hB hV
    have u0 : a'.eval (.tmp 28) = .bool (!decide (A.n = D + L + G)) := hV 4 (h1 4 (by decide))
    exact op_val (v := .bool (!decide (A.n = D + L + G))) (by simp [execOp, show o.op = Op.assign (.tmp 28) from ho, u0]) h0 ⟨hB, rfl, kq⟩
   | n + 6, hn => exact absurd hn (by show ¬ n + 6 < 6; omega)
 · rintro a' w' h9 h2 ⟨Dn, he, hB⟩ hV
   have e : a' = Act.putFrom a 21 [.bool (!decide (A.n = D + L + G)), a.eval (.tmp 22), a.eval (.tmp 23), .pointer (some ⟨p, 0, none⟩), .int .i64 A.n, .agg #[.int .i64 D, .int .i64 L, .int .i64 G], .int .i64 ((D + L + G : Nat) : Int), .bool (!decide (A.n = D + L + G))] := h9.out _ rfl (by omega) (fun i hi => ?_)
   · rw [e]; exact hQ w' hB
   · match i, hi with
     | 0, _ => exact hV 5 (by decide)
     | 1, _ => exact h2 22 (by decide)
     | 2, _ => exact h2 23 (by decide)
     | 3, _ => exact hV 0 (by decide)
     | 4, _ => exact hV 1 (by decide)
     | 5, _ => exact hV 2 (by decide)
     | 6, _ => exact hV 3 (by decide)
     | 7, _ => exact hV 4 (by decide)
     | n + 8, hn => exact absurd hn (by simp)
structure NewArc (w w' : World) (p D L G ar v ps : Nat) (u : Value) (A : Arr) (F : Foot) : Prop where
 arGe : w.heap.size ≤ ar
 vGe : w.heap.size ≤ v
 arc : ArcAt w' ar v D L G 1 2 0 u (.slice none 0 0) false
 pg : Ints (fun k => w.heap.size ≤ k ∧ ar < k) w' u [2]
 vol : Vol w' v p D L G ps 0 (newArc (A.readTo A.n) D L G) F
 out : Outside (F.has p A.n) w w'
theorem open_new (h : ArrAt w p A F) (hf : A.fit) (hn : A.n = D + L + G) (hr : rightB D L G = true) (q4 : 1 ≤ D) (hD : D ≤ 12) (hL : 1 ≤ L) (ko : L ≤ 4) (hG : G ≤ 4) (kd : D % L = 0) (q5 : D + L + G ≤ 16) (qd : 0 ≤ cache) (qe : cache ≤ 64)
 (qf : 8 ≤ A.nb) (hw : A.wait < 0) (hx : ∀ i, A.lost i = false) (ke : ∀ d, A.bad d 0 = false) (hz : ∀ i, i < A.n → A.blk i 0 = zb) (hv : hvLaid w) (ht : tabLaid w) (hK : 3 ≤ w.heap.size) (kp : ¬ F.has p A.n 2) (kr : ¬ F.has p A.n 1) :
 Calls Tryz.prog 36 #[.pointer (some ⟨p, 0, none⟩), .agg #[.int .i64 D, .int .i64 L, .int .i64 G], .agg #[.int .i64 cache]] w fun e w' => ∃ ar v ps u, e = .returned (.tuple #[.pointer (some ⟨ar, 0, none⟩), .nilIface]) ∧ NewArc w w' p D L G ar v ps u A F := by
 have qg : ∀ (fn : Fn) (first cap : Array Value) (w : World), (Instr.makeFunc fn first cap).run Tryz.prog w = .ok (.func fn first cap) w := fun _ _ _ _ => rfl
 have q6 : ∀ (args : Array Value) (w : World), (callFunc 54 args).run Tryz.prog w = .ok (.enter 54 args) w := enters_of Tryz.func54 (by kernel_rfl) rfl
 have hq : ((w.alloc (.cells #[.int .i64 (D : Int), .int .i64 (L : Int), .int .i64 (G : Int)] 25)).alloc (.cells #[.int .i64 cache] 80)).heap[w.heap.size]? = some (.cells #[.int .i64 (D : Int), .int .i64 (L : Int), .int .i64 (G : Int)] 25 (0, 0)) := (blk_alloc_lt _ _ _ (by simp)).trans (blk_alloc_new _ _)
 have ho : ((w.alloc (.cells #[.int .i64 (D : Int), .int .i64 (L : Int), .int .i64 (G : Int)] 25)).alloc (.cells #[.int .i64 cache] 80)).heap[w.heap.size + 1]? = some (.cells #[.int .i64 cache] 80 (0, 0)) := by
  have := blk_alloc_new (w.alloc (.cells #[.int .i64 (D : Int), .int .i64 (L : Int), .int .i64 (G : Int)] 25)) (.cells #[.int .i64 cache] 80)
  rwa [World.size_alloc] at this
 have h9 : Below w.heap.size w ((w.alloc (.cells #[.int .i64 (D : Int), .int .i64 (L : Int), .int .i64 (G : Int)] 25)).alloc (.cells #[.int .i64 cache] 80)) := ((Below.refl _ w).alloc (Nat.le_refl _) _).alloc (by simp) _
 have hy : ((w.alloc (.cells #[.int .i64 (D : Int), .int .i64 (L : Int), .int .i64 (G : Int)] 25)).alloc (.cells #[.int .i64 cache] 80)).heap.size = w.heap.size + 2 := by simp
 obtain ⟨w2, q7⟩ : ∃ w2, (w.alloc (.cells #[.int .i64 (D : Int), .int .i64 (L : Int), .int .i64 (G : Int)] 25)).alloc (.cells #[.int .i64 cache] 80) = w2 := ⟨_, rfl⟩
 rw [q7] at hq ho h9 hy
 have p0 : w2.cell? ⟨w.heap.size, 0, none⟩ = some (.int .i64 D) := by simp [World.cell?, hq]
 have p1 : w2.cell? ⟨w.heap.size, 1, none⟩ = some (.int .i64 L) := by simp [World.cell?, hq]
 have p2 : w2.cell? ⟨w.heap.size, 2, none⟩ = some (.int .i64 G) := by simp [World.cell?, hq]
 have H2 := hide4 hq ho h9 hy
 clear hq ho h9 hy
 go_enter Tryz.func36, Tryz.ntmps36
 go_wp2_with fail
 refine (right_any D L G _).mono ?_
 rw [hr]
 rintro e w3 ⟨rfl, k0⟩
 obtain ⟨hq, ho, h9, hy⟩ := H2.out
 have k5 := (k0.block _ (by omega)).trans hq
 have hj := (k0.block _ (by omega)).trans ho
 have h5 : Below w.heap.size w w3 := h9.trans (k0.mono h9.size)
 have kf := k0.size
 have o0 : w3.cell? ⟨w.heap.size + 1, 0, none⟩ = some (.int .i64 cache) := by simp [World.cell?, hj]
 have H3 := hide4 k5 hj h5 (show w.heap.size + 2 ≤ w3.heap.size by omega)
 clear hq ho h9 hy k5 hj h5 k0 kf p0 p1 p2
 go_wp2_with fail
 refine open_region (by kernel_rfl) (h.below H3.out.2.2.1 (Nat.le_refl _)) hf H3.out.1 hD ko hG rfl rfl rfl ?_
 intro w4 k6
 rw [decide_eq_true hn]
 obtain ⟨k5, hj, h5, kf⟩ := H3.out
 have k9 := (k6.block _ (by omega)).trans k5
 have ks := (k6.block _ (by omega)).trans hj
 have ha : Below w.heap.size w w4 := h5.trans (k6.mono h5.size)
 have q8 := k6.size
 have kv := blocks_any (h.below ha (Nat.le_refl _)) (by omega)
 have kg : ¬ ((A.nb : Nat) : Int) < 8 := by omega
 have q0 : w4.cell? ⟨w.heap.size, 0, none⟩ = some (.int .i64 D) := by simp [World.cell?, k9]
 have q1 : w4.cell? ⟨w.heap.size, 1, none⟩ = some (.int .i64 L) := by simp [World.cell?, k9]
 have q2 : w4.cell? ⟨w.heap.size, 2, none⟩ = some (.int .i64 G) := by simp [World.cell?, k9]
 have o4 : w4.cell? ⟨w.heap.size + 1, 0, none⟩ = some (.int .i64 cache) := by simp [World.cell?, ks]
 have H4 := hide3 ha kv (show w.heap.size + 2 ≤ w4.heap.size by omega)
 clear k5 hj h5 kf k9 ks ha q8 kv k6 o0
 rename_i kx
 refine kx _ _ ?_
 clear kx
 simp only [Act.putFrom, Act.put, List.setIfInBounds_toArray, List.set_cons_succ, List.set_cons_zero]
 obtain ⟨NB, kh⟩ : ∃ NB, A.nb = NB := ⟨_, rfl⟩
 rw [kh] at H4 kg
 have qh := hide kh
 clear kh
 go_wp2_with fail
 refine H4.out.2.1.mono ?_
 rintro e w5 ⟨rfl, q9⟩
 subst q9
 go_wp2_with fail
 refine (volNew_any p D L G cache w5).mono ?_
 rintro e w6 ⟨v, ps, rfl, qa, ka, ki⟩
 obtain ⟨hc, _, qi⟩ := H4.out
 have he : Below w.heap.size w w6 := hc.trans (ki.mono hc.size)
 have qj := ki.size
 have kb : Below w6.heap.size w6 (w6.alloc (.cells (arcA v 0 0 0 0 0 0 (.slice none 0 0) (.slice none 0 0) false) 112)) := (Below.refl _ w6).alloc (Nat.le_refl _) _
 have hm : ArcAt (w6.alloc (.cells (arcA v 0 0 0 0 0 0 (.slice none 0 0) (.slice none 0 0) false) 112)) w6.heap.size v 0 0 0 0 0 0 (.slice none 0 0) (.slice none 0 0) false := blk_alloc_new _ _
 obtain ⟨w7, kj⟩ : ∃ w7, w6.alloc (.cells (arcA v 0 0 0 0 0 0 (.slice none 0 0) (.slice none 0 0) false) 112) = w7 := ⟨_, rfl⟩
 rw [kj] at kb hm
 have h0 : Below w.heap.size w w7 := he.trans (kb.mono he.size)
 have h7 : Vol w7 v p D L G ps 0 A F := ⟨ka.keep (kb.block _ ka.lt), h.below h0 (Nat.le_refl _), hv.below h0 hv.lt, ht.keep (h0.block _ ht.lt), Nat.le_trans hK h0.size⟩
 have hg : ∀ k, F.has p A.n k → k < w.heap.size := fun k hk => h.has_lt hk
 have k7 : Free F p A.n v := ⟨fun q => by have := hg v q; omega, kp, kr⟩
 have k8 : ¬ F.has p A.n w6.heap.size := fun q => by have := hg _ q; omega
 have ky : w6.heap.size < w7.heap.size := hm.lt
 have qk : v < w6.heap.size := ka.lt
 have kz := arcPowered_ok 54 #[.pointer (some ⟨w6.heap.size, 0, none⟩)] #[] q6 w7 w6.heap.size _ hm rfl
  (fun w1 x w2 => x = .nilIface ∧ ArrAt w2 p (newArc (A.readTo A.n) D L G) F ∧ (∃ u, ArcAt w2 w6.heap.size v D L G 1 2 0 u (.slice none 0 0) false ∧ Ints (fun k => w1.heap.size ≤ k) w2 u [2]) ∧ Outside (fun k => k = w6.heap.size ∨ F.has p A.n k) w1 w2)
  (fun w1 h8 kc => (load_new (hm.keep (h8.block _ hm.lt)) (h7.below h8 (Nat.le_refl _)) k7 k8 hf hn hr q4 hD hL ko hG kd q5 (by omega) hw hx ke hz).mono (by
   rintro e w2 ⟨rfl, hp, ⟨u, hh, hs⟩, h6⟩
   exact ⟨_, rfl, .inl rfl, ⟨rfl, hp, ⟨u, hh, hs⟩, h6⟩, h6.block _ (by omega) (fun q => q.elim (fun e => by omega) (fun q => by have := hg _ q; omega)), _, hh, rfl⟩))
 have H7 := hide6 h0 h7 hg kz k7 ky
 clear hc he kb hm h0 h7 kz ka ki k7 k8 q0 q1 q2 o4
 have kk : w6.alloc (.cells #[.pointer (some ⟨v, 0, none⟩), .int .i64 0, .int .i64 0, .int .i64 0, .int .u64 0, .int .i64 0, .int .i64 0, .slice none 0 0, .slice none 0 0, .bool false] 112) = w7 := kj
 clear kj
 go_wp2_with fail
 clear kk
 refine H7.out.2.2.2.1.mono ?_
 rintro e w8 ⟨x, w1, wl, rfl, _, h8, kc, ⟨rfl, hp, ⟨u, hh, hs⟩, h6⟩, rfl⟩
 have H8 := hide6 h8 kc hp hh hs h6
 clear h8 kc hp hh hs h6
 go_wp2
 go_ret2
 obtain ⟨h0, h7, hg, _, k7, ky⟩ := H7.out
 obtain ⟨h8, kc, hp, hh, hs, h6⟩ := H8.out
 have h3 : Below w.heap.size w w1 := h0.trans (h8.mono h0.size)
 have qb := h0.size
 have h4 : ∀ k, k ≠ w7.heap.size → k ≠ w6.heap.size → ((wl.setCell ⟨w7.heap.size, 0, none⟩ .nilIface).setCell ⟨w6.heap.size, 9, none⟩ (.bool false)).heap[k]? = wl.heap[k]? := fun k h1 h2 => (blk_setCell_other _ _ _ _ h2).trans (blk_setCell_other _ _ _ _ h1)
 have km : ((wl.setCell ⟨w7.heap.size, 0, none⟩ .nilIface).setCell ⟨w6.heap.size, 9, none⟩ (.bool false)).heap.size = wl.heap.size := by simp [World.setCell]
 have hO : Outside (F.has p A.n) w ((wl.setCell ⟨w7.heap.size, 0, none⟩ .nilIface).setCell ⟨w6.heap.size, 9, none⟩ (.bool false)) :=
  ⟨h6.os.trans h3.os, h6.tape.trans h3.tape, h6.output.trans h3.output, by rw [km]; exact Nat.le_trans h3.size h6.size, fun k hk qc => (h4 k (by omega) (by omega)).trans ((h6.block k (by have := h3.size; omega) (fun q => q.elim (fun e => by omega) qc)).trans (h3.block k hk))⟩
 refine ⟨w6.heap.size, v, ps, u, rfl, by omega, by omega, ?_, ?_, ?_, hO⟩
 · have kn : wl.heap[w6.heap.size]? = some (.cells (arcA v D L G 1 2 0 u (.slice none 0 0) false) 112 (0, 0)) := hh
   have h1 : (wl.setCell ⟨w7.heap.size, 0, none⟩ .nilIface).heap[w6.heap.size]? = some (.cells (arcA v D L G 1 2 0 u (.slice none 0 0) false) 112 (0, 0)) := (blk_setCell_other _ _ _ _ (by show w6.heap.size ≠ w7.heap.size; omega)).trans kn
   exact heap_setCell_at (j := 9) h1 (.bool false)
 · obtain ⟨ao, cc, q1, q2, q3⟩ := hs
   refine ⟨ao, cc, q1, q2, fun hl => ?_⟩
   obtain ⟨b, bo, r1, r2, r3, r4⟩ := q3 hl
   exact ⟨b, bo, r1, ⟨by omega, by omega⟩, by rw [km]; exact r3, fun i hi => (World.cell?_of_block (h4 b (by omega) (by omega))).trans (r4 i hi)⟩
 · refine ⟨?_, hp.keep fun k hk => h4 k (by have := hg k hk; omega) (by have := hg k hk; omega), ?_, ?_, ?_⟩
   · exact h7.vol.keep ((h4 v (by have := h7.vol.lt; omega) (by omega)).trans ((h6.block v (by have := h7.vol.lt; omega) (fun q => q.elim (fun e => by omega) k7.v)).trans (h8.block v h7.vol.lt)))
   · exact hv.keep (hO.block _ hv.lt kp)
   · exact ht.keep (hO.block _ ht.lt kr)
   · rw [km]; exact Nat.le_trans (Nat.le_trans hK h3.size) h6.size
def ObPost (w : World) (p : Nat) (A : Arr) (F : Foot) (x : Value) (R : Nat → Nat → Nat → World → World → Prop) (e : Ending) (w' : World) : Prop := ∃ ar v ps w1 w2 w0, ((x = .nilIface ∧ e = .returned (.tuple #[.pointer (some ⟨ar, 0, none⟩), .nilIface])) ∨ (x ≠ .nilIface ∧ e = .returned (.tuple #[.pointer none, x]))) ∧ R ar v ps w1 w2 ∧ w' = (w2.setCell ⟨w0, 0, none⟩ x).setCell ⟨ar, 9, none⟩ (.bool false) ∧ (w.heap.size ≤ w0 ∧ w0 < w1.heap.size ∧ w0 ≠ ar ∧ w0 ≠ v) ∧ w.heap.size ≤ ar ∧ Outside (F.has p A.n) w w'
theorem open_by (h : ArrAt w p A F) (hf : A.fit) (hn : A.n = D + L + G) (hr : rightB D L G = true) (hD : D ≤ 12) (ko : L ≤ 4) (hG : G ≤ 4) (q8 : 0 ≤ cache) (q9 : cache ≤ 64)
 (qa : 8 ≤ A.nb) (hv : hvLaid w) (ht : tabLaid w) (hK : 3 ≤ w.heap.size) (kp : ¬ F.has p A.n 2) (kr : ¬ F.has p A.n 1) (qb : 0 < A.n)
 (x : Value) (hx : x = .nilIface ∨ ∃ n : Int, n ≠ 13 ∧ x = .iface 52 (.int .i64 n)) (R : Nat → Nat → Nat → World → World → Prop)
 (h6 : ∀ (w1 : World) (ar v ps : Nat), Below w.heap.size w w1 → w.heap.size ≤ ar → w.heap.size ≤ v → v ≠ ar → ArcAt w1 ar v 0 0 0 0 0 0 (.slice none 0 0) (.slice none 0 0) false → Vol w1 v p D L G ps 0 A F → Free F p A.n v → ¬ F.has p A.n ar →
  Calls Tryz.prog 54 #[.pointer (some ⟨ar, 0, none⟩)] w1 fun e w2 => e = .returned x ∧ R ar v ps w1 w2 ∧ Outside (fun k => k = ar ∨ k = v ∨ F.has p A.n k) w1 w2 ∧ ∃ cs', w2.heap[ar]? = some (.cells cs' 112 (0, 0)) ∧ cs'[9]? = some (.bool false)) :
 Calls Tryz.prog 36 #[.pointer (some ⟨p, 0, none⟩), .agg #[.int .i64 D, .int .i64 L, .int .i64 G], .agg #[.int .i64 cache]] w fun e w' => ObPost w p A F x R e w' := by
 have qc : ∀ (fn : Fn) (first cap : Array Value) (w : World), (Instr.makeFunc fn first cap).run Tryz.prog w = .ok (.func fn first cap) w := fun _ _ _ _ => rfl
 have ks : ∀ (args : Array Value) (w : World), (callFunc 54 args).run Tryz.prog w = .ok (.enter 54 args) w := enters_of Tryz.func54 (by kernel_rfl) rfl
 have hq : ((w.alloc (.cells #[.int .i64 (D : Int), .int .i64 (L : Int), .int .i64 (G : Int)] 25)).alloc (.cells #[.int .i64 cache] 80)).heap[w.heap.size]? = some (.cells #[.int .i64 (D : Int), .int .i64 (L : Int), .int .i64 (G : Int)] 25 (0, 0)) := (blk_alloc_lt _ _ _ (by simp)).trans (blk_alloc_new _ _)
 have ho : ((w.alloc (.cells #[.int .i64 (D : Int), .int .i64 (L : Int), .int .i64 (G : Int)] 25)).alloc (.cells #[.int .i64 cache] 80)).heap[w.heap.size + 1]? = some (.cells #[.int .i64 cache] 80 (0, 0)) := by
  have := blk_alloc_new (w.alloc (.cells #[.int .i64 (D : Int), .int .i64 (L : Int), .int .i64 (G : Int)] 25)) (.cells #[.int .i64 cache] 80)
  rwa [World.size_alloc] at this
 have h8 : Below w.heap.size w ((w.alloc (.cells #[.int .i64 (D : Int), .int .i64 (L : Int), .int .i64 (G : Int)] 25)).alloc (.cells #[.int .i64 cache] 80)) := ((Below.refl _ w).alloc (Nat.le_refl _) _).alloc (by simp) _
 have hh : ((w.alloc (.cells #[.int .i64 (D : Int), .int .i64 (L : Int), .int .i64 (G : Int)] 25)).alloc (.cells #[.int .i64 cache] 80)).heap.size = w.heap.size + 2 := by simp
 obtain ⟨w2, kv⟩ : ∃ w2, (w.alloc (.cells #[.int .i64 (D : Int), .int .i64 (L : Int), .int .i64 (G : Int)] 25)).alloc (.cells #[.int .i64 cache] 80) = w2 := ⟨_, rfl⟩
 rw [kv] at hq ho h8 hh
 have p0 : w2.cell? ⟨w.heap.size, 0, none⟩ = some (.int .i64 D) := by simp [World.cell?, hq]
 have p1 : w2.cell? ⟨w.heap.size, 1, none⟩ = some (.int .i64 L) := by simp [World.cell?, hq]
 have p2 : w2.cell? ⟨w.heap.size, 2, none⟩ = some (.int .i64 G) := by simp [World.cell?, hq]
 have H2 := hide4 hq ho h8 hh
 clear hq ho h8 hh
 go_enter Tryz.func36, Tryz.ntmps36
 go_wp2_with fail
 refine (right_any D L G _).mono ?_
 rw [hr]
 rintro e w3 ⟨rfl, hi⟩
 obtain ⟨hq, ho, h8, hh⟩ := H2.out
 have hj := (hi.block _ (by omega)).trans hq
 have he := (hi.block _ (by omega)).trans ho
 have h3 : Below w.heap.size w w3 := h8.trans (hi.mono h8.size)
 have ka := hi.size
 have o0 : w3.cell? ⟨w.heap.size + 1, 0, none⟩ = some (.int .i64 cache) := by simp [World.cell?, he]
 have H3 := hide4 hj he h3 (show w.heap.size + 2 ≤ w3.heap.size by omega)
 clear hq ho h8 hh hj he h3 hi ka p0 p1 p2
 go_wp2_with fail
 refine open_region (by kernel_rfl) (h.below H3.out.2.2.1 (Nat.le_refl _)) hf H3.out.1 hD ko hG rfl rfl rfl ?_
 intro w4 hm
 rw [decide_eq_true hn]
 obtain ⟨hj, he, h3, ka⟩ := H3.out
 have k5 := (hm.block _ (by omega)).trans hj
 have kg := (hm.block _ (by omega)).trans he
 have h9 : Below w.heap.size w w4 := h3.trans (hm.mono h3.size)
 have kx := hm.size
 have kh := blocks_any (h.below h9 (Nat.le_refl _)) (by omega)
 have kb : ¬ ((A.nb : Nat) : Int) < 8 := by omega
 have q0 : w4.cell? ⟨w.heap.size, 0, none⟩ = some (.int .i64 D) := by simp [World.cell?, k5]
 have q1 : w4.cell? ⟨w.heap.size, 1, none⟩ = some (.int .i64 L) := by simp [World.cell?, k5]
 have q2 : w4.cell? ⟨w.heap.size, 2, none⟩ = some (.int .i64 G) := by simp [World.cell?, k5]
 have o4 : w4.cell? ⟨w.heap.size + 1, 0, none⟩ = some (.int .i64 cache) := by simp [World.cell?, kg]
 have H4 := hide3 h9 kh (show w.heap.size + 2 ≤ w4.heap.size by omega)
 clear hj he h3 ka k5 kg h9 kx kh hm o0
 rename_i ki
 refine ki _ _ ?_
 clear ki
 simp only [Act.putFrom, Act.put, List.setIfInBounds_toArray, List.set_cons_succ, List.set_cons_zero]
 obtain ⟨NB, kc⟩ : ∃ NB, A.nb = NB := ⟨_, rfl⟩
 rw [kc] at H4 kb
 have qd := hide kc
 clear kc
 go_wp2_with fail
 refine H4.out.2.1.mono ?_
 rintro e w5 ⟨rfl, ky⟩
 subst ky
 go_wp2_with fail
 refine (volNew_any p D L G cache w5).mono ?_
 rintro e w6 ⟨v, ps, rfl, kz, k6, kd⟩
 obtain ⟨ha, _, qe⟩ := H4.out
 have hc : Below w.heap.size w w6 := ha.trans (kd.mono ha.size)
 have qf := kd.size
 have k7 : Below w6.heap.size w6 (w6.alloc (.cells (arcA v 0 0 0 0 0 0 (.slice none 0 0) (.slice none 0 0) false) 112)) := (Below.refl _ w6).alloc (Nat.le_refl _) _
 have hg : ArcAt (w6.alloc (.cells (arcA v 0 0 0 0 0 0 (.slice none 0 0) (.slice none 0 0) false) 112)) w6.heap.size v 0 0 0 0 0 0 (.slice none 0 0) (.slice none 0 0) false := blk_alloc_new _ _
 obtain ⟨w7, ke⟩ : ∃ w7, w6.alloc (.cells (arcA v 0 0 0 0 0 0 (.slice none 0 0) (.slice none 0 0) false) 112) = w7 := ⟨_, rfl⟩
 rw [ke] at k7 hg
 have h0 : Below w.heap.size w w7 := hc.trans (k7.mono hc.size)
 have kj : Vol w7 v p D L G ps 0 A F := ⟨k6.keep (k7.block _ k6.lt), h.below h0 (Nat.le_refl _), hv.below h0 hv.lt, ht.keep (h0.block _ ht.lt), Nat.le_trans hK h0.size⟩
 have hp : ∀ k, F.has p A.n k → k < w.heap.size := fun k hk => h.has_lt hk
 have kk : Free F p A.n v := ⟨fun q => by have := hp v q; omega, kp, kr⟩
 have hs : ¬ F.has p A.n w6.heap.size := fun q => by have := hp _ q; omega
 have km : w6.heap.size < w7.heap.size := hg.lt
 have qg : v < w6.heap.size := k6.lt
 have kn := arcPowered_ok 54 #[.pointer (some ⟨w6.heap.size, 0, none⟩)] #[] ks w7 w6.heap.size _ hg rfl
  (fun w1 y w2 => y = x ∧ R w6.heap.size v ps w1 w2 ∧ Outside (fun k => k = w6.heap.size ∨ k = v ∨ F.has p A.n k) w1 w2)
  (fun w1 h7 k8 => (h6 w1 w6.heap.size v ps (h0.trans (h7.mono h0.size)) (by omega) (by omega) (by omega) (hg.keep (h7.block _ hg.lt)) (kj.below h7 (Nat.le_refl _)) kk hs).mono (by
   rintro e w2 ⟨rfl, hR, h5, q3⟩
   exact ⟨_, rfl, hx, ⟨rfl, hR, h5⟩, h5.block _ (by omega) (fun q => by rcases q with e | e | q; omega; omega; have := hp _ q; omega), q3⟩))
 have H7 := hide4 h0 hp kn km
 clear ha hc k7 hg h0 kj kn k6 kd kk hs q0 q1 q2 o4
 have kf : w6.alloc (.cells #[.pointer (some ⟨v, 0, none⟩), .int .i64 0, .int .i64 0, .int .i64 0, .int .u64 0, .int .i64 0, .int .i64 0, .slice none 0 0, .slice none 0 0, .bool false] 112) = w7 := ke
 clear ke
 go_wp2_with fail
 clear kf
 refine H7.out.2.2.1.mono ?_
 rintro e w8 ⟨y, w1, wl, rfl, q4, h7, k8, ⟨rfl, hR, h5⟩, k9⟩
 have H8 := hide5 h7 k8 hR h5 k9
 clear h7 k8 hR h5 k9 q4 h6
 have hy : Outside (F.has p A.n) w w8 := by
  obtain ⟨h0, hp, _, km⟩ := H7.out
  obtain ⟨h7, k8, hR, h5, k9⟩ := H8.out
  have h4 : Below w.heap.size w w1 := h0.trans (h7.mono h0.size)
  have q5 := h0.size
  rw [k9]
  have hz : ∀ k, k ≠ w7.heap.size → k ≠ w6.heap.size → ((wl.setCell ⟨w7.heap.size, 0, none⟩ y).setCell ⟨w6.heap.size, 9, none⟩ (.bool false)).heap[k]? = wl.heap[k]? := fun k h1 h2 => (blk_setCell_other _ _ _ _ h2).trans (blk_setCell_other _ _ _ _ h1)
  have q6 : ((wl.setCell ⟨w7.heap.size, 0, none⟩ y).setCell ⟨w6.heap.size, 9, none⟩ (.bool false)).heap.size = wl.heap.size := by simp [World.setCell]
  exact ⟨h5.os.trans h4.os, h5.tape.trans h4.tape, h5.output.trans h4.output, by rw [q6]; exact Nat.le_trans h4.size h5.size, fun k hk q7 => (hz k (by omega) (by omega)).trans ((h5.block k (by have := h4.size; omega) (fun q => by rcases q with e | e | q; omega; omega; exact q7 q)).trans (h4.block k hk))⟩
 have HF := hide hy
 clear hy
 have k0 : w.heap.size ≤ w7.heap.size := H7.out.1.size
 rcases hx with hx | ⟨n, _, hx⟩
 · subst hx
   go_wp2
   go_ret2
   exact ⟨w6.heap.size, v, ps, w1, wl, w7.heap.size, .inl ⟨rfl, rfl⟩, H8.out.2.2.1, H8.out.2.2.2.2, ⟨k0, by have := H8.out.2.1; omega, by have := H7.out.2.2.2; omega, by have := H7.out.2.2.2; omega⟩, by omega, HF.out⟩
 · subst hx
   go_wp2
   go_ret2
   exact ⟨w6.heap.size, v, ps, w1, wl, w7.heap.size, .inr ⟨(fun e => (by cases e)), rfl⟩, H8.out.2.2.1, H8.out.2.2.2.2, ⟨k0, by have := H8.out.2.1; omega, by have := H7.out.2.2.2; omega, by have := H7.out.2.2.2; omega⟩, by omega, HF.out⟩
structure Laid2B (w w2 : World) (D L G cache : Int) : Prop where
 par : w2.heap[w.heap.size]? = some (.cells #[.int .i64 D, .int .i64 L, .int .i64 G] 25 (0, 0))
 opt : w2.heap[w.heap.size + 1]? = some (.cells #[.int .i64 cache] 80 (0, 0))
 below : Below w.heap.size w w2
 size : w2.heap.size = w.heap.size + 2
theorem laid2B (w : World) (D L G cache : Int) : Laid2B w ((w.alloc (.cells #[.int .i64 D, .int .i64 L, .int .i64 G] 25)).alloc (.cells #[.int .i64 cache] 80)) D L G cache := by
 refine ⟨(blk_alloc_lt _ _ _ (by simp)).trans (blk_alloc_new _ _), ?_, ((Below.refl _ w).alloc (Nat.le_refl _) _).alloc (by simp) _, by simp⟩
 have := blk_alloc_new (w.alloc (.cells #[.int .i64 D, .int .i64 L, .int .i64 G] 25)) (.cells #[.int .i64 cache] 80)
 rwa [World.size_alloc] at this
theorem sopen_new (h : ArrAt w p A F) (hf : A.fit) (hn : A.n = D + L + G) (hr : rightB D L G = true) (h6 : 1 ≤ D) (hD : D ≤ 12) (hL : 1 ≤ L) (h7 : L ≤ 4) (hG : G ≤ 4) (h3 : D % L = 0) (h8 : D + L + G ≤ 16) (h9 : 0 ≤ cache) (ha : cache ≤ 64)
 (he : 8 ≤ A.nb) (hw : A.wait < 0) (h1 : ∀ i, A.lost i = false) (h4 : ∀ d, A.bad d 0 = false) (hz : ∀ i, i < A.n → A.blk i 0 = zb) (hv : hvLaid w) (ht : tabLaid w) (hK : 3 ≤ w.heap.size) (hg : ¬ F.has p A.n 2) (hh : ¬ F.has p A.n 1) :
 Calls Tryz.prog 24 #[.pointer (some ⟨p, 0, none⟩), .agg #[.int .i64 D, .int .i64 L, .int .i64 G], .agg #[.int .i64 cache]] w fun e w' => ∃ sa ar v ps u, e = .returned (.tuple #[.pointer (some ⟨sa, 0, none⟩), .nilIface]) ∧ w.heap.size ≤ sa ∧ Boxed w' sa 86 (.pointer (some ⟨ar, 0, none⟩)) ∧ NewArc w w' p D L G ar v ps u A F := by
 have h0 := laid2B w D L G cache
 obtain ⟨w2, hi⟩ : ∃ w2, (w.alloc (.cells #[.int .i64 (D : Int), .int .i64 (L : Int), .int .i64 (G : Int)] 25)).alloc (.cells #[.int .i64 cache] 80) = w2 := ⟨_, rfl⟩
 rw [hi] at h0
 have p0 : w2.cell? ⟨w.heap.size, 0, none⟩ = some (.int .i64 D) := by simp [World.cell?, h0.par]
 have p1 : w2.cell? ⟨w.heap.size, 1, none⟩ = some (.int .i64 L) := by simp [World.cell?, h0.par]
 have p2 : w2.cell? ⟨w.heap.size, 2, none⟩ = some (.int .i64 G) := by simp [World.cell?, h0.par]
 have o0 : w2.cell? ⟨w.heap.size + 1, 0, none⟩ = some (.int .i64 cache) := by simp [World.cell?, h0.opt]
 have hb := h0.below
 have hc := open_new (h.below hb (Nat.le_refl _)) hf hn hr h6 hD hL h7 hG h3 h8 h9 ha he hw h1 h4 hz (hv.below hb hv.lt) (ht.keep (hb.block _ ht.lt)) (Nat.le_trans hK hb.size) hg hh
 have H := hide2 h0 hc
 clear h0 hc hb
 go_enter Tryz.func24, Tryz.ntmps24
 go_wp2_with fail
 refine H.out.2.mono ?_
 rintro e w3 ⟨ar, v, ps, u, rfl, hN⟩
 have H3 := hide hN
 clear hN
 go_wp2
 go_ret2
 have hN := H3.out
 have hb := H.out.1.below
 have hj := H.out.1.size
 have h5 : Outside (F.has p A.n) w w3 := (Outside.of_all hb _).trans hN.out
 have h2 : Below w3.heap.size w3 (w3.alloc (.cells #[.pointer (some ⟨ar, 0, none⟩)] 86)) := (Below.refl _ w3).alloc (Nat.le_refl _) _
 refine ⟨w3.heap.size, ar, v, ps, u, rfl, h5.size, Boxed.new w3 _ _, ?_, ?_, hN.arc.keep (h2.block _ hN.arc.lt), ?_, hN.vol.below h2 (Nat.le_refl _), h5.trans (Outside.of_all h2 _)⟩
 · have := hN.arGe; omega
 · have := hN.vGe; omega
 · exact (hN.pg.weaken (fun k hk => ⟨by have := hk.1; omega, hk.2⟩)).keep (KpS.of_below h2)
structure NewOn (B : Arr) (D L G : Nat) : Prop where
 bad : ∀ i m, B.bad i m = false
 lost : ∀ i, B.lost i = false
 wait : B.wait < 0
 root : ∀ i, i < B.n → B.blk i 0 = (Rec.root D L G 1 2 0).blk
 fill : ∀ i, i < B.n → B.blk i 1 = Rec.filled.blk
 page : ∀ i, i < B.n → B.blk i 2 = (Rec.shard ((stripeL D L G (pageB D [2] [] 0)).getD i [])).blk
theorem newOn (D L G : Nat) (hb : ∀ i m, A.bad i m = false) (hl : ∀ i, A.lost i = false) (hw : A.wait < 0) : NewOn (newArc A D L G) D L G := by
 refine ⟨fun i m => ?_, hl, hw, fun i hi => ?_, fun i hi => ?_, fun i hi => ?_⟩
 · simp [newArc, Arr.pagesTo, Arr.putAt, hb]
 · have h0 : i < A.n := hi
   simp [newArc, Arr.pagesTo, Arr.putAt, h0]
 · have h0 : i < A.n := hi
   simp [newArc, Arr.pagesTo, Arr.putAt, h0]
 · have h0 : i < A.n := hi
   simp [newArc, Arr.pagesTo, Arr.putAt, h0]
end Go.Proofs.YtpaemkanfnddoaaGreatDoor
