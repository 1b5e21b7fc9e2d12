import Derived.Test.YtogdeaaphdlchaaGreatDoorPart21
import Derived.Test.YtogdeaaphdlchaaGreatDoorPart20
import Derived.OwnWalk
import Derived.Laws.BytesString
/-
  begin: an archive without objects.
-/
namespace Go.Proofs.YtogdeaaphdlchaaGreatDoor
open Go.RowKit Go.Shelf Go.Deep Gf

noncomputable def RBg : Array Oper := ((Tryz.f35.body.bind (rgf · 1))).getD #[]
def shBg : List (Op × Option Nat × List Nat) := [(Op.move (Operand.tmp 0), some 5, []),
    (Op.nilCheck (Operand.tmp 5), some 6, [0]),
    (Op.fieldAddr 68 (Operand.tmp 6) 0, some 7, [1]),
    (Op.load 59 (Operand.tmp 7), some 8, [2]),
    (Op.build 141 #[], some 9, []),
    (Op.makeInterface 141 (Operand.tmp 9), some 10, [4]),
    (Op.move (Operand.tmp 0), some 11, []),
    (Op.nilCheck (Operand.tmp 11), some 12, [6]),
    (Op.fieldAddr 68 (Operand.tmp 12) 0, some 13, [7]),
    (Op.load 59 (Operand.tmp 13), some 14, [8]),
    (Op.call { callee := Callee.value (Operand.func 50), args := #[Operand.tmp 14], argTypes := #[59] }, some 15, [9]),
    (Op.call { callee := Callee.value (Operand.func 44), args := #[Operand.tmp 8, Operand.const (Value.int IntKind.i64 1), Operand.tmp 10, Operand.tmp 15], argTypes := #[59, 3, 125, 89] }, some 16, [3, 5, 10, 10])]
theorem RBg_shape : RegShape RBg 5 17 shBg := regShape (by kernel_rfl) (by kernel_rfl)
def vsBg (ar v S : Nat) : List Value := [.pointer (some ⟨ar, 0, none⟩), .pointer (some ⟨ar, 0, none⟩), .pointer (some ⟨ar, 0, none⟩), .pointer (some ⟨v, 0, none⟩), .agg #[], recV .filled, .pointer (some ⟨ar, 0, none⟩), .pointer (some ⟨ar, 0, none⟩), .pointer (some ⟨ar, 0, none⟩), .pointer (some ⟨v, 0, none⟩), .int .u64 S, .int .u64 0]
def arBg (A : Arr) (r : Rec) (D : Nat → Bool) : Arr := if D 11 = true then A.putAt (List.range A.n) 1 (fun _ => r.blk) else A
def BBg (w0 : World) (p : Nat) (A : Arr) (F : Foot) (r : Rec) (Dn : Nat → Bool) (w : World) : Prop := ArrAt w p (arBg A r Dn) F ∧ Outside (F.has p A.n) w0 w
theorem BBg_upd {w0 : World} {p : Nat} {A : Arr} {F : Foot} {r : Rec} {Dn : Nat → Bool} {w w' : World} (h : BBg w0 p A F r Dn w) (i : Nat) (hi : i ≠ 11) (hb : Below w.heap.size w w') : BBg w0 p A F r (upd Dn i) w' := by
  refine ⟨?_, h.2.trans (Outside.of_all hb _)⟩
  have e : arBg A r (upd Dn i) = arBg A r Dn := by unfold arBg upd; rw [if_neg (fun e : 11 = i => hi e.symm)]
  rw [e]; exact h.1.below hb (Nat.le_refl _)
set_option maxRecDepth 100000 in
set_option maxHeartbeats 1000000 in
theorem beginWrite_region {ops : Array Oper} {Q : Exit → Act → World → Prop} {a : Act} {w : World} {ar v p D L G ps ho : Nat} {A : Arr} {F : Foot} {cs : Array Value} (hops : RBg = ops) (hV : Vol w v p D L G ps ho A F) (hF : Free F p A.n v) (hnar : ¬ F.has p A.n ar) (har : w.heap[ar]? = some (.cells cs 68 (0, 0))) (h0 : cs[0]? = some (.pointer (some ⟨v, 0, none⟩)))
    (hf : A.fit) (hn : A.n = D + L + G) (hD : D ≤ 12) (hL4 : L ≤ 4) (hG : G ≤ 4) (h16 : D + L + G ≤ 16) (hb : 1 < A.nb) (hw : A.wait < 0) (hl : ∀ i, A.lost i = false)
    (hsz : a.tmps.size = 30) (e0 : a.eval (.tmp 0) = .pointer (some ⟨ar, 0, none⟩))
    (hQ : ∀ (w' : World) (vs : List Value), vs.length = 12 → ArrAt w' p (A.putAt (List.range A.n) 1 (fun _ => Rec.filled.blk)) F → Outside (F.has p A.n) w w' → Q .normal (Act.putFrom a 5 vs) w') : (Code.region 1 ops true).wp Tryz.prog Q a w := by
  subst hops
  obtain ⟨S, hS⟩ : ∃ S, 2 ^ (D + L + G) - 1 = S := ⟨_, rfl⟩
  have hSm : mems S = List.range A.n := by rw [← hS, hn]; exact mems_all h16
  have hSl : S < 65536 := by
    have : 2 ^ (D + L + G) ≤ 2 ^ 16 := Nat.pow_le_pow_right (by decide) h16
    omega
  have harl : ar < w.heap.size := (Array.getElem?_eq_some_iff.1 har).1
  have har' : ∀ w', Outside (F.has p A.n) w w' → w'.cell? ⟨ar, 0, none⟩ = some (.pointer (some ⟨v, 0, none⟩)) := fun w' hO => by
    have := (hO.block ar harl hnar).trans har
    simp [World.cell?, this, h0]
  refine region_facts (by kernel_rfl) RBg_shape a w (by omega) (fun i u _ => u = (vsBg ar v S).getD i undef) (BBg w p A F .filled) ⟨hV.arr.keep fun _ _ => rfl, Outside.drew w⟩ ?_ ?_
  · intro i hi
    match i, hi with
    | 0, _ => exact fun o a' w' Dn hg ho hdst hk hDi hcl hdep hB hV' => op_val (run_op_move ho ((hk.slot 0 (by omega)).trans e0) w') hdst ⟨BBg_upd hB _ (by decide) (Below.refl _ _), rfl, fun _ _ _ q => q⟩
    | 1, _ =>
      intro o a' w' Dn hg ho hdst hk hDi hcl hdep hB hV'
      have u0 : a'.eval (.tmp 5) = .pointer (some ⟨ar, 0, none⟩) := hV' 0 (hdep 0 (by decide))
      exact op_val (v := .pointer (some ⟨ar, 0, none⟩)) (by simp only [execOp, show o.op = Op.nilCheck (.tmp 5) from ho, u0]; go_simp) hdst ⟨BBg_upd hB _ (by decide) (Below.refl _ _), rfl, fun _ _ _ q => q⟩
    | 2, _ =>
      intro o a' w' Dn hg ho hdst hk hDi hcl hdep hB hV'
      have u0 : a'.eval (.tmp 6) = .pointer (some ⟨ar, 0, none⟩) := hV' 1 (hdep 1 (by decide))
      exact op_val (v := .pointer (some ⟨ar, 0, none⟩)) (by simp only [execOp, show o.op = Op.fieldAddr 68 (.tmp 6) 0 from ho, u0]; go_simp) hdst ⟨BBg_upd hB _ (by decide) (Below.refl _ _), rfl, fun _ _ _ q => q⟩
    | 3, _ =>
      intro o a' w' Dn hg ho hdst hk hDi hcl hdep hB hV'
      have u0 : a'.eval (.tmp 7) = .pointer (some ⟨ar, 0, none⟩) := hV' 2 (hdep 2 (by decide))
      have c := har' w' hB.2
      exact op_val (v := .pointer (some ⟨v, 0, none⟩)) (by simp only [execOp, show o.op = Op.load 59 (.tmp 7) from ho, u0]; go_simp) hdst ⟨BBg_upd hB _ (by decide) (Below.refl _ _), rfl, fun _ _ _ q => q⟩
    | 4, _ =>
      intro o a' w' Dn hg ho hdst hk hDi hcl hdep hB hV'
      exact op_val (v := .agg #[]) (by simp only [execOp, show o.op = Op.build 141 #[] from ho]; go_simp) hdst ⟨BBg_upd hB _ (by decide) (Below.refl _ _), rfl, fun _ _ _ q => q⟩
    | 5, _ =>
      intro o a' w' Dn hg ho hdst hk hDi hcl hdep hB hV'
      have u0 : a'.eval (.tmp 9) = .agg #[] := hV' 4 (hdep 4 (by decide))
      exact op_val (v := recV .filled) (by simp only [execOp, show o.op = Op.makeInterface 141 (.tmp 9) from ho, u0, recV]; go_simp) hdst ⟨BBg_upd hB _ (by decide) (Below.refl _ _), rfl, fun _ _ _ q => q⟩
    | 6, _ => exact fun o a' w' Dn hg ho hdst hk hDi hcl hdep hB hV' => op_val (run_op_move ho ((hk.slot 0 (by omega)).trans e0) w') hdst ⟨BBg_upd hB _ (by decide) (Below.refl _ _), rfl, fun _ _ _ q => q⟩
    | 7, _ =>
      intro o a' w' Dn hg ho hdst hk hDi hcl hdep hB hV'
      have u0 : a'.eval (.tmp 11) = .pointer (some ⟨ar, 0, none⟩) := hV' 6 (hdep 6 (by decide))
      exact op_val (v := .pointer (some ⟨ar, 0, none⟩)) (by simp only [execOp, show o.op = Op.nilCheck (.tmp 11) from ho, u0]; go_simp) hdst ⟨BBg_upd hB _ (by decide) (Below.refl _ _), rfl, fun _ _ _ q => q⟩
    | 8, _ =>
      intro o a' w' Dn hg ho hdst hk hDi hcl hdep hB hV'
      have u0 : a'.eval (.tmp 12) = .pointer (some ⟨ar, 0, none⟩) := hV' 7 (hdep 7 (by decide))
      exact op_val (v := .pointer (some ⟨ar, 0, none⟩)) (by simp only [execOp, show o.op = Op.fieldAddr 68 (.tmp 12) 0 from ho, u0]; go_simp) hdst ⟨BBg_upd hB _ (by decide) (Below.refl _ _), rfl, fun _ _ _ q => q⟩
    | 9, _ =>
      intro o a' w' Dn hg ho hdst hk hDi hcl hdep hB hV'
      have u0 : a'.eval (.tmp 13) = .pointer (some ⟨ar, 0, none⟩) := hV' 8 (hdep 8 (by decide))
      have c := har' w' hB.2
      exact op_val (v := .pointer (some ⟨v, 0, none⟩)) (by simp only [execOp, show o.op = Op.load 59 (.tmp 13) from ho, u0]; go_simp) hdst ⟨BBg_upd hB _ (by decide) (Below.refl _ _), rfl, fun _ _ _ q => q⟩
    | 10, _ =>
      intro o a' w' Dn hg ho hdst hk hDi hcl hdep hB hV'
      have u0 : a'.eval (.tmp 14) = .pointer (some ⟨v, 0, none⟩) := hV' 9 (hdep 9 (by decide))
      refine op_call (f := 50) (args := #[.pointer (some ⟨v, 0, none⟩)]) (w1 := w') (by simp only [execOp, show o.op = Op.call { callee := Callee.value (Operand.func 50), args := #[Operand.tmp 14], argTypes := #[59] } from ho]; go_simp; simpa [Act.eval] using u0) hdst (volAll_any (hV.vol.keep (hB.2.block _ hV.vol.lt hF.v)) hD hL4 hG h16) ?_
      rintro e w'' ⟨rfl, hb'⟩
      rw [hS]
      exact ⟨_, rfl, BBg_upd hB 10 (by decide) hb', rfl, fun _ _ _ q => q⟩
    | 11, _ =>
      intro o a' w' Dn hg' ho hdst hk hDi hcl hdep hB hV'
      have u0 : a'.eval (.tmp 8) = .pointer (some ⟨v, 0, none⟩) := hV' 3 (hdep 3 (by decide))
      have u1 : a'.eval (.tmp 10) = recV .filled := hV' 5 (hdep 5 (by decide))
      have u2 : a'.eval (.tmp 15) = .int .u64 S := hV' 10 (hdep 10 (by decide))
      have hA : ArrAt w' p A F := by have := hB.1; unfold arBg at this; rw [if_neg (by rw [hDi]; decide)] at this; exact this
      have hVw := hV.turn hF hB.2 hA
      have hwc := writeCopies_ok hVw hF hf 1 S hb hSl (fun i hi => by rw [hSm] at hi; simpa using hi) hw (fun i _ => hl i) .filled trivial makes_filled
      rw [hSm] at hwc
      refine op_call (f := 44) (args := #[.pointer (some ⟨v, 0, none⟩), .int .i64 (1 : Nat), recV .filled, .int .u64 S]) (w1 := w') (by simp only [execOp, show o.op = Op.call { callee := Callee.value (Operand.func 44), args := #[Operand.tmp 8, Operand.const (Value.int IntKind.i64 1), Operand.tmp 10, Operand.tmp 15], argTypes := #[59, 3, 125, 89] } from ho]; go_simp; exact ⟨by simpa [Act.eval] using u0, by simpa [Act.eval] using u1, by simpa [Act.eval] using u2⟩) hdst hwc ?_
      rintro e w'' ⟨rfl, hA', hO'⟩
      refine ⟨_, rfl, ⟨?_, hB.2.trans hO'⟩, rfl, fun _ _ _ q => q⟩
      have e : arBg A .filled (upd Dn 11) = A.putAt (List.range A.n) 1 (fun _ => Rec.filled.blk) := by unfold arBg upd; rw [if_pos (by rw [if_pos rfl])]
      rw [e]; exact hA'
    | n + 12, hn => exact absurd hn (by show ¬ n + 12 < 12; omega)
  · rintro a' w' hk' ⟨Dn, hD', hB⟩ hV'
    have e : arBg A .filled Dn = A.putAt (List.range A.n) 1 (fun _ => Rec.filled.blk) := by unfold arBg; rw [if_pos (hD' 11 (by decide))]
    have hA := hB.1
    rw [e] at hA
    have e : a' = Act.putFrom a 5 ((List.range 12).map fun i => a'.eval (.tmp (5 + i))) := hk'.out _ (by rw [List.length_map, List.length_range]) (by omega) (fun i hi => by
      rw [List.length_map, List.length_range] at hi
      rw [List.getD_eq_getElem?_getD, List.getElem?_map, List.getElem?_range hi]; rfl)
    rw [e]
    exact hQ w' _ (by rw [List.length_map, List.length_range]) hA hB.2
set_option maxRecDepth 100000 in
set_option maxHeartbeats 1000000 in
theorem packOk_nil (w : World) : PackOk w (.slice none 0 0) [] := by
  intro W _
  go_enter Tryz.func73, Tryz.ntmps73
  go_wp2_with fail
  refine (length_nil W).mono ?_
  rintro e w' ⟨rfl, rfl⟩
  go_wp2_with (at_make; refine wpList_mk _ rfl (.const (.int .i64 0)) (.tmp 10) rfl _ 0 rfl rfl rfl (by omega) ?_; intro w2 hB hb2 hz2)
  have H := hide (And.intro hB hb2)
  clear hB hb2
  refine wp_loop_rounds 1 ?_
  rw [rounds_succ]
  go_wp2
  go_ret
  obtain ⟨hB, hb2⟩ := H.out
  exact ⟨_, 0, rfl, ⟨rfl, .inr ⟨_, 0, _, rfl, Nat.le_refl _, hB.heapB, Nat.le_refl _, by unfold maxLen; omega, rfl, rfl⟩⟩, hb2⟩
theorem Ints.weaken {K K' : Nat → Prop} {w : World} {v : Value} {l : List Nat} (h : Ints K w v l) (hk : ∀ k, K k → K' k) : Ints K' w v l := by
  obtain ⟨ao, c, h1, h2, h3⟩ := h
  refine ⟨ao, c, h1, h2, fun hl => ?_⟩
  obtain ⟨b, off, q1, q2, q3⟩ := h3 hl
  exact ⟨b, off, q1, hk b q2, q3⟩
theorem frees_new {nb : Nat} (h : 3 ≤ nb) : (frees (tk nb ([] ++ allSt [])).1 nb).take 1 = [2] ∧ 1 ≤ (frees (tk nb ([] ++ allSt [])).1 nb).length := by
  have e : (tk nb ([] ++ allSt [])).1 = fun _ => false := rfl
  rw [e]
  have h3 : frees (fun _ => false) 3 = [2] := by simp [frees, List.range_succ]
  obtain ⟨r, hr⟩ := frees_mono (fun _ => false) h
  rw [h3] at hr
  rw [← hr]
  exact ⟨rfl, by simp⟩
/-- a new archive on an array -/
def newArc (A : Arr) (D L G : Nat) : Arr := ((A.putAt (List.range A.n) 1 (fun _ => Rec.filled.blk)).pagesTo D L G [2] [] 1).putAt (List.range A.n) 0 (fun _ => (Rec.root D L G 1 2 0).blk)
theorem own_ints {w : World} {base n : Nat} {u : Value} {l : List Nat} (h : w.ownsRow base 3 1 u n (ivs l)) (hl : l ≠ []) (hll : l.length ≤ 1000000) {K : Nat → Prop} (hK : ∀ k, base ≤ k → K k) : ∃ g c, u = .slice (some ⟨g, 0, none⟩) l.length c ∧ Ints K w u l := by
  have hn : n = l.length := by have := h.1; unfold ivs at this; rw [List.length_map, Nat.mul_one] at this; omega
  rcases h.2 with ⟨_, h0⟩ | ⟨g, cap, cur, e1, e2, e3, _⟩
  · exact absurd (List.eq_nil_of_length_eq_zero (by omega)) hl
  · refine ⟨g, cap, by rw [e1, hn], some ⟨g, 0, none⟩, cap, by rw [e1, hn], hll, fun _ => ⟨g, 0, rfl, hK g e2, (Array.getElem?_eq_some_iff.1 e3).1, fun i hi => ?_⟩⟩
    have := h.cells (g := g) (by rw [e1]; rfl) i (.int .i64 ((l[i] : Nat) : Int)) (by unfold ivs; simp [hi])
    rw [add0] at this
    rw [Nat.zero_add]; exact this
set_option maxRecDepth 100000 in
set_option maxHeartbeats 2000000 in
theorem begin_new {w : World} {ar v p D L G ps ho : Nat} {off : Bool} {A : Arr} {F : Foot} (ha : ArcAt w ar v 0 0 0 0 0 0 (.slice none 0 0) (.slice none 0 0) off) (hV : Vol w v p D L G ps ho A F) (hF : Free F p A.n v) (har : ¬ F.has p A.n ar) (hf : A.fit) (hn : A.n = D + L + G) (hr : rightB D L G = true) (hD1 : 1 ≤ D) (hD : D ≤ 12) (hL : 1 ≤ L) (hL4 : L ≤ 4) (hG : G ≤ 4) (hdiv : D % L = 0) (h16 : D + L + G ≤ 16)
    (hnb : 3 ≤ A.nb) (hw : A.wait < 0) (hlost : ∀ i, A.lost i = false) :
    Calls Tryz.prog 35 #[.pointer (some ⟨ar, 0, none⟩)] w fun e w' => e = .returned .nilIface ∧ ArrAt w' p (newArc A D L G) F ∧ (∃ u, ArcAt w' ar v D L G 1 2 0 u (.slice none 0 0) off ∧ Ints (fun k => w.heap.size ≤ k) w' u [2]) ∧ Outside (fun k => k = ar ∨ F.has p A.n k) w w' := by
  have har0 := ha
  go_enter Tryz.func35, Tryz.ntmps35
  go_wp2_with fail
  refine beginWrite_region (by kernel_rfl) hV hF har ha rfl hf hn hD hL4 hG h16 (by omega) hw hlost rfl rfl ?_
  intro w1 vs hvs hA1 hO1
  obtain ⟨y0, y1, y2, y3, y4, y5, y6, y7, y8, y9, ya, yb, rfl⟩ := list12 hvs
  obtain ⟨A1, hA1e⟩ : ∃ A1, A.putAt (List.range A.n) 1 (fun _ => Rec.filled.blk) = A1 := ⟨_, rfl⟩
  have hf1 : A1.fit := by rw [← hA1e]; exact hf.putAt _ _ _ fun _ _ => ⟨blk_len (r := .filled) trivial, blk_lt (r := .filled) trivial⟩
  have hA1n : A1.n = A.n ∧ A1.nb = A.nb ∧ A1.wait = A.wait ∧ A1.lost = A.lost := by rw [← hA1e]; exact ⟨rfl, rfl, rfl, rfl⟩
  obtain ⟨an1, an2, an3, an4⟩ := hA1n
  rw [hA1e] at hA1
  have ha1 := ha.keep (hO1.block _ ha.lt har)
  have hV1 := hV.turn hF hO1 hA1
  have hpo := pagesOf_any ha1 hV1.vol hD1 (by omega) 0 (by decide)
  have hpg1 : pgs D 0 = 1 := by unfold pgs; rw [Nat.div_eq_of_lt (by omega)]; rfl
  rw [hpg1] at hpo
  have htk := arcTake_any ha1 hV1.vol hV1.arr hf1 (by rw [an1]; omega) [] [] (Ints.nil _ _) (Cat.nil _ _) 1 (by decide)
  obtain ⟨fq1, fq2⟩ := frees_new (nb := A1.nb) (by rw [an2]; exact hnb)
  rw [fq1, decide_eq_true fq2] at htk
  have H1 := hide (And.intro ha1 (And.intro hV1 (And.intro hO1 (And.intro hpo (And.intro htk (And.intro hf1 hA1e))))))
  clear ha1 hV1 hO1 hpo htk hf1 hA1e hA1 hvs fq1 fq2
  rename_i hK
  refine hK _ _ ?_
  clear hK
  simp only [Act.putFrom, Act.put, List.setIfInBounds_toArray, List.set_cons_succ, List.set_cons_zero]
  go_wp2_with fail
  refine H1.out.2.2.2.1.mono ?_
  rintro e w2 ⟨rfl, hw2⟩
  subst hw2
  go_wp2_with fail
  refine H1.out.2.2.2.2.1.mono ?_
  rintro e w3 ⟨u, rfl, hown, hb3⟩
  obtain ⟨ha1, hV1, hO1, _, _, hf1, hA1e⟩ := H1.out
  have ha3 := ha1.keep (hb3.block _ ha1.lt)
  have hV3 := hV1.below hb3 (Nat.le_refl _)
  obtain ⟨g, c, hu, hIb⟩ := own_ints (K := fun k => w2.heap.size ≤ k) hown (by simp) (by decide) (fun k hk => hk)
  subst hu
  have hI3 : Ints (fun k => ¬ F.has p A1.n k) w3 (.slice (some ⟨g, 0, none⟩) [2].length c) [2] := by
    obtain ⟨ao, cc, q1, q2, q3⟩ := hIb
    refine ⟨ao, cc, q1, q2, fun hl => ?_⟩
    obtain ⟨b, bo, r1, r2, r3⟩ := q3 hl
    exact ⟨b, bo, r1, fun q => by have := hV1.arr.has_lt q; omega, r3⟩
  have hcm := commit_any ha3 hV3 (by rw [an1]; exact hF) (by rw [an1]; exact har) hf1 (by rw [an1]; exact hn) hr hD1 hD hL hL4 hG hdiv h16 (by rw [an3]; exact hw) (fun i => by rw [an4]; exact hlost i) (by decide) none 0 0 [] (fun x hx => by cases hx) (by decide) (packOk_nil w3) g 0 c [2] hI3 (by simp) (fun x hx => by simp at hx; subst hx; rw [an2]; omega) (fun k hk => by simp at hk; subst hk; simp)
  have hO03 : Outside (F.has p A.n) w w3 := hO1.trans (Outside.of_all hb3 _)
  have H3 := hide (And.intro hcm (And.intro hO03 (And.intro hIb (And.intro hV1 (And.intro ha1.lt hO1.size)))))
  clear hcm hO03 hI3 hIb ha3 hV3 hown hb3 ha1 hV1 hO1 hf1
  go_wp2_with fail
  refine H3.out.1.mono ?_
  rintro e w4 ⟨rfl, hA4, ha4, hO4⟩
  have H4 := hide (And.intro hA4 (And.intro ha4 hO4))
  clear hA4 ha4 hO4
  go_wp2
  go_ret
  obtain ⟨hA4, ha4, hO4⟩ := H4.out
  obtain ⟨_, hO03, hI3, hV1, halt, hz01⟩ := H3.out
  rw [an1] at hA4 hO4
  refine ⟨rfl, ?_, ⟨_, ha4, ?_⟩, (hO03.mono fun _ _ q => .inr q).trans hO4⟩
  · unfold newArc; rw [hA1e]; exact hA4
  · obtain ⟨ao, cc, q1, q2, q3⟩ := hI3
    refine ⟨ao, cc, q1, q2, fun hl => ?_⟩
    obtain ⟨b, bo, r1, r2, r3, r4⟩ := q3 hl
    have hbne : b ≠ ar := fun e => by omega
    have hbF : ¬ F.has p A.n b := fun q => by have := hV1.arr.has_lt (k := b) (by rw [an1]; exact q); omega
    refine ⟨b, bo, r1, Nat.le_trans hz01 r2, Nat.lt_of_lt_of_le r3 hO4.size, fun i hi => ?_⟩
    exact (World.cell?_of_block (hO4.block b r3 (fun q => q.elim hbne hbF))).trans (r4 i hi)
end Go.Proofs.YtogdeaaphdlchaaGreatDoor
/-
  readPages: the bytes of a catalog, page behind page, where nothing is lost.
-/
namespace Go.Proofs.YtogdeaaphdlchaaGreatDoor
open Go.RowKit Go.Deep Gf

theorem own_slice {w : World} {base n : Nat} {e : TypeId} {size : Nat} {v : Value} {xs : List Value} (h : w.ownsRow base e size v n xs) : ∃ pa pc, v = .slice pa n pc := by
  rcases h.2 with ⟨h0, h1⟩ | ⟨g, cap, cur, e1, _⟩
  · exact ⟨none, 0, by rw [h0, h1]⟩
  · exact ⟨_, _, e1⟩
theorem own_type {w : World} {base n : Nat} {e : TypeId} {size : Nat} {v : Value} {xs : List Value} (h : w.ownsRow base e size v n xs) {k : Nat} (hk : v.ownBlock = some k) : ∃ cur, w.heap[k]? = some (.cells cur e (0, 0)) := by
  rcases h.2 with ⟨h0, _⟩ | ⟨g, cap, cur, e1, _, e3, _⟩
  · rw [h0] at hk; simp [Value.ownBlock] at hk
  · rw [e1] at hk
    simp [Value.ownBlock] at hk
    subst hk
    exact ⟨cur, e3⟩
theorem own_apart {w : World} {base n : Nat} {e t : TypeId} {size : Nat} {v : Value} {xs : List Value} (h : w.ownsRow base e size v n xs) {k : Nat} {cs : Array Value} (hk : w.heap[k]? = some (.cells cs t (0, 0))) (hne : e ≠ t) : v.ownBlock ≠ some k := by
  intro q
  obtain ⟨cur, hc⟩ := own_type h q
  rw [hk] at hc
  injection hc with hc
  injection hc with h1 h2
  exact hne h2.symm
theorem own_keepO {w w' : World} {base n : Nat} {e : TypeId} {size : Nat} {v : Value} {xs : List Value} {S : Nat → Prop} (h : w.ownsRow base e size v n xs) (hO : Outside S w w') (hS : ∀ k, v.ownBlock = some k → ¬ S k) : w'.ownsRow base e size v n xs := by
  refine ⟨h.1, ?_⟩
  rcases h.2 with h0 | ⟨g, cap, cur, e1, e2, e3, r⟩
  · exact .inl h0
  · exact .inr ⟨g, cap, cur, e1, e2, (hO.block g (Array.getElem?_eq_some_iff.1 e3).1 (hS g (by rw [e1]; rfl))).trans e3, r⟩
theorem pgs_mul {D n : Nat} (hD1 : 1 ≤ D) {k : Nat} (hk : k < pgs D n) : k * (D * 44 - 4) ≤ n := by
  unfold pgs at hk
  by_cases h0 : k = 0
  · subst h0; omega
  · have h1 : k < (n + (D * 44 - 4) - 1) / (D * 44 - 4) := by omega
    have hs : 0 < D * 44 - 4 := by omega
    have h2 := (Nat.le_div_iff_mul_le hs).1 (Nat.succ_le_of_lt h1)
    rw [Nat.succ_mul] at h2
    omega
theorem pgs_end {D n : Nat} (hD1 : 1 ≤ D) : n ≤ pgs D n * (D * 44 - 4) := by
  have hs : 0 < D * 44 - 4 := by omega
  have h1 : (n + (D * 44 - 4) - 1) / (D * 44 - 4) ≤ pgs D n := Nat.le_max_right _ _
  have h2 := Nat.mul_le_mul_right (D * 44 - 4) h1
  have h3 := Nat.div_add_mod (n + (D * 44 - 4) - 1) (D * 44 - 4)
  have h4 := Nat.mod_lt (n + (D * 44 - 4) - 1) hs
  rw [Nat.mul_comm] at h3
  omega
theorem pageB_len' {D : Nat} (P l : List Nat) (k : Nat) : (pageB D P l k).length = 4 + min (l.length - k * (D * 44 - 4)) (D * 44 - 4) := by
  unfold pageB
  rw [List.length_append, be_len, List.length_take, List.length_drop, Nat.min_comm]
/-- bytes of a page, wherever they lie -/
def PgC (w : World) (pb po n : Nat) (page : List Nat) : Prop := ∀ q, q < n → w.cell? ⟨pb, po + q, none⟩ = some (.int .u8 ((page.getD q 0 : Nat) : Int))
theorem PgC.grown {w w' : World} {pb po n : Nat} {page : List Nat} {row : Option Nat} (h : PgC w pb po n page) (hg : w.grownBy w' row) (hne : row ≠ some pb) : PgC w' pb po n page := fun q hq => hg.cell (h q hq) (fun e => hne e.symm)
theorem PgC.alloc {w : World} {pb po n : Nat} {page : List Nat} (h : PgC w pb po n page) (o : Obj) : PgC (w.alloc o) pb po n page := h.grown (World.grownBy_alloc w o none) (fun e => by cases e)
theorem PgC.src {w : World} {pb po sk : Nat} {page : List Nat} (h : PgC w pb po (4 + sk) page) (hl : page.length = 4 + sk) : Src Tryz.prog 1 166 (.slice (some ⟨pb, po + 4, none⟩) sk sk) sk (bts (page.drop 4)) w := by
  refine Src.ofSlice w Tryz.underlying166 ⟨pb, po + 4, none⟩ sk sk (bts (page.drop 4)) (by rw [bts_len, List.length_drop, hl]; omega) (fun q u hq => ?_) (fun u hu => by obtain ⟨x, _, rfl⟩ := List.mem_map.1 hu; rfl)
  have hq' : q < sk := by
    have := (List.getElem?_eq_some_iff.1 hq).1
    rw [bts_len, List.length_drop, hl] at this
    omega
  have h1 := h (4 + q) (by omega)
  have h2 : (Value.int .u8 ((page.getD (4 + q) 0 : Nat) : Int)) = u := by
    unfold bts at hq
    rw [List.getElem?_map, List.getElem?_drop, List.getElem?_eq_getElem (by omega)] at hq
    simp at hq
    rw [← hq]
    simp [List.getD_eq_getElem?_getD, show 4 + q < page.length by omega]
  have h9 : w.cell? ⟨pb, po + 4 + q, none⟩ = some u := by rw [← h2, Nat.add_assoc]; exact h1
  unfold Addr.add
  split
  · rename_i h0; subst h0; exact h9
  · exact h9
theorem PgC.src0 {w : World} {pb po : Nat} : Src Tryz.prog 1 166 (.slice (some ⟨pb, po, none⟩) 0 0) 0 [] w := Src.ofSlice w Tryz.underlying166 ⟨pb, po, none⟩ 0 0 [] rfl (fun q u hq => by simp at hq) (fun u hu => by cases hu)
theorem PgC.head {w : World} {pb po n c x : Nat} {page : List Nat} (h : PgC w pb po n page) (hn : 4 ≤ n) (hc : 4 ≤ c) (hp : page.take 4 = be x 4) : Bs w (.slice (some ⟨pb, po, none⟩) 4 c) (be x 4) := by
  refine ⟨some ⟨pb, po, none⟩, c, by rw [be_len], by rw [be_len]; exact hc, by rw [be_len]; decide, be_lt _ _, fun _ => ⟨pb, po, rfl, fun q hq => ?_⟩⟩
  rw [be_len] at hq
  rw [h q (by omega), ← hp]
  have : (page.take 4).getD q 0 = page.getD q 0 := by
    rw [List.getD_eq_getElem?_getD, List.getD_eq_getElem?_getD, List.getElem?_take_of_lt hq]
  rw [this]
/-- the same array, but how often it was read -/
def Arr.rd (A : Arr) (r : Nat → Int) : Arr := { A with reads := r }
/-- between two pages -/
structure RpI (w : World) (q D L G v p r g N sz n1 : Nat) (A : Arr) (F : Foot) (P l : List Nat) (D1 L1 G1 t1 f1 : Nat) (k : Nat) (up uq : Value) (wr : World) : Prop where
  pk : wr.ownsRow w.heap.size 5 1 up (min (k * sz) n1) (bts (l.take (k * sz)))
  pg : wr.ownsRow w.heap.size 3 1 uq k (ivs (P.take k))
  rd : ∃ b gone sp, RdAt wr r v b g N gone sp
  row : ∃ f, wr.rowIs g 166 N f
  arr : ∃ rs, ArrAt wr p (A.rd rs) F
  out : Outside (F.has p A.n) w wr
  box : wr.heap[q]? = some (.cells (rootA D1 L1 G1 t1 f1 n1) 63 (0, 0))
/-- one page more -/
theorem rp_step {w w4 w5 w6 w7 : World} {D L G v p r g sz n1 : Nat} {A : Arr} {F : Foot} {P l : List Nat} {D1 L1 G1 t1 f1 k pl sk nx m b : Nat} {rs : Nat → Int} {up uq u v6 v7 : Value} {page : List Nat} {news : List Value} {o : Obj}
    (hD5 : DtPost w4 r v b g A.n p (A.rd rs) F page m u w5) (hpg5 : w5.ownsRow w.heap.size 3 1 uq k (ivs (P.take k))) (hbx5 : w5.heap[w.heap.size]? = some (.cells (rootA D1 L1 G1 t1 f1 n1) 63 (0, 0))) (hO5 : Outside (F.has p A.n) w w5)
    (ho6 : w6.ownsRow w.heap.size 3 1 v6 (k + 1) (ivs (P.take k) ++ [.int .i64 (nx : Int)])) (hg6 : (w5.alloc o).grownBy w6 uq.ownBlock) (hpk6 : w6.ownsRow w.heap.size 5 1 up pl (bts (l.take pl))) (ho7 : w7.ownsRow w.heap.size 5 1 v7 (pl + sk) (bts (l.take pl) ++ news)) (hg7 : w6.grownBy w7 up.ownBlock)
    (hFl : ∀ k, F.has p A.n k → k < w.heap.size) (hz : w.heap.size < w5.heap.size) (hkp : k < P.length) (hnx : P.getD k 0 = nx) (hsz : D * 44 - 4 = sz) (hpl : k * sz = pl) (hsk : min (n1 - pl) (D * 44 - 4) = sk) (hks : pl ≤ n1)
    (hnews : bts (l.take pl) ++ news = bts (l.take pl) ++ bts ((l.drop pl).take sz)) : RpI w w.heap.size D L G v p r g A.n sz n1 A F P l D1 L1 G1 t1 f1 (k + 1) v7 v6 w7 := by
  have hz6 : w5.heap.size + 1 ≤ w6.heap.size := by have := hg6.size; simp at this; omega
  have hpgA := hpg5.alloc o
  have hmid : ∀ {q : Nat} {cs : Array Value} {T : TypeId}, w5.heap[q]? = some (.cells cs T (0, 0)) → 3 ≠ T → 5 ≠ T → w7.heap[q]? = w5.heap[q]? := by
    intro q cs T hq h1 h2
    have hql : q < w5.heap.size := (Array.getElem?_eq_some_iff.1 hq).1
    have e1 : (w5.alloc o).heap[q]? = w5.heap[q]? := blk_alloc_lt _ _ _ hql
    have e2 : w6.heap[q]? = (w5.alloc o).heap[q]? := hg6.block q (by simp; omega) (fun e => own_apart hpgA (e1.trans hq) h1 e.symm)
    exact (hg7.block q (by omega) (fun e => own_apart hpk6 ((e2.trans e1).trans hq) h2 e.symm)).trans (e2.trans e1)
  have hlow : ∀ q, q < w.heap.size → w7.heap[q]? = w5.heap[q]? := fun q hq => by
    have e1 : (w5.alloc o).heap[q]? = w5.heap[q]? := blk_alloc_lt _ _ _ (by omega)
    have e2 : w6.heap[q]? = (w5.alloc o).heap[q]? := hg6.block q (by simp; omega) (fun e => by have := own_ge hpgA e.symm; omega)
    exact (hg7.block q (by omega) (fun e => by have := own_ge hpk6 e.symm; omega)).trans (e2.trans e1)
  have hmul : (k + 1) * sz = pl + sz := by rw [Nat.succ_mul, hpl]
  refine ⟨?_, ?_, ?_, ?_, ?_, ?_, ?_⟩
  · rw [hmul, List.take_add, bts_append, ← hnews, show min (pl + sz) n1 = pl + sk by omega]
    exact ho7
  · have e : ivs (P.take (k + 1)) = ivs (P.take k) ++ [.int .i64 (nx : Int)] := by
      have hg : P.getD k 0 = P[k] := by simp [List.getD_eq_getElem?_getD, hkp]
      rw [List.take_add_one, List.getElem?_eq_getElem hkp, ← hnx, hg]
      unfold ivs
      rw [List.map_append]
      rfl
    rw [e]
    refine ho6.kept hg7 ?_
    cases h8 : v6.ownBlock with
    | none => exact .inl rfl
    | some q =>
      refine .inr fun e => ?_
      obtain ⟨cur, hcur⟩ := own_type ho6 h8
      exact own_apart hpk6 hcur (by decide) e.symm
  · exact ⟨b, 0, 0, hD5.rd.keep (hmid hD5.rd (by decide) (by decide))⟩
  · obtain ⟨f, cs, h1, h2⟩ := hD5.row
    exact ⟨f, cs, (hmid h1 (by decide) (by decide)).trans h1, h2⟩
  · exact ⟨_, hD5.arr.keep fun q hq => hlow q (hFl q hq)⟩
  · exact hO5.later (T := fun q => w.heap.size ≤ q) ⟨hg7.os.trans (hg6.os.trans rfl), hg7.tape.trans (hg6.tape.trans rfl), hg7.output.trans (hg6.output.trans rfl), by have := hg7.size; omega, fun q _ hq2 => hlow q (by omega)⟩ (fun q h1 h2 => by omega)
  · exact (hmid hbx5 (by decide) (by decide)).trans hbx5
def RpR (w : World) (q D L G v p r g N sz n1 : Nat) (A : Arr) (F : Foot) (P l : List Nat) (D1 L1 G1 t1 f1 : Nat) (up uq nx i : Value) (wr : World) : Prop := ∃ k : Nat, k ≤ P.length ∧ i = .int .i64 k ∧ nx = .int .i64 ((P.getD k 0 : Nat) : Int) ∧ RpI w q D L G v p r g N sz n1 A F P l D1 L1 G1 t1 f1 k up uq wr
/-- what readPages leaves -/
structure RpPost (w : World) (p : Nat) (A : Arr) (F : Foot) (P l : List Nat) (up uq : Value) (w' : World) : Prop where
  pk : Bs w' up l
  pg : Ints (fun k => w.heap.size ≤ k) w' uq P
  arr : ∃ rs, ArrAt w' p (A.rd rs) F
  out : Outside (F.has p A.n) w w'
set_option maxRecDepth 100000 in
set_option maxHeartbeats 4000000 in
theorem readPages_ok {w : World} {ar v p D L G ps D' L' G' t f nn D1 L1 G1 t1 : Nat} {pg ob : Value} {off : Bool} {A : Arr} {F : Foot} (hA : ArcAt w ar v D' L' G' t f nn pg ob off) (hV : Vol w v p D L G ps 0 A F) (hF : Free F p A.n v) (har : ¬ F.has p A.n ar) (hf : A.fit) (hn : A.n = D + L + G) (hD1 : 1 ≤ D) (hD : D ≤ 12) (hL4 : L ≤ 4) (hG : G ≤ 4) (h16 : D + L + G ≤ 16)
    (hw : A.wait ≠ 0) (hlost : ∀ i, A.lost i = false) (P l : List Nat) (hlx : ∀ x ∈ l, x < 256) (hll : l.length ≤ 1000000) (hPl : P.length = pgs D l.length) (hPn : ∀ x ∈ P, x < A.nb) (hPb : P.length ≤ A.nb) (hPm : P.length ≤ 1000000) (hbad : ∀ x ∈ P, ∀ i, A.bad i x = false)
    (hblk : ∀ k, k < P.length → ∀ i, i < A.n → A.blk i (P.getD k 0) = (Rec.shard ((stripeL D L G (pageB D P l k)).getD i [])).blk) :
    Calls Tryz.prog 57 #[.pointer (some ⟨ar, 0, none⟩), .agg (rootA D1 L1 G1 t1 (P.getD 0 0) l.length)] w fun e w' => ∃ up uq, e = .returned (.tuple #[up, uq, .nilIface]) ∧ RpPost w p A F P l up uq w' := by
  obtain ⟨ib, hib, hib0, hib1, hib2⟩ := info_parts Tryz.infoByteC
  obtain ⟨ii, hii, hii0, hii1, hii2⟩ := info_parts Tryz.infoIntT
  have hnbf := hf.nb
  have hvl := hV.vol.lt
  have harl := hA.lt
  have hroom := hV.room
  have hlaid := hV.laid
  have htab := hV.tab
  have hFl : ∀ k, F.has p A.n k → k < w.heap.size := fun k hk => hV.arr.has_lt hk
  obtain ⟨c0, _⟩ := hA.cells
  obtain ⟨n1, hn1⟩ : ∃ n1, l.length = n1 := ⟨_, rfl⟩
  obtain ⟨f1, hf1⟩ : ∃ f1, P.getD 0 0 = f1 := ⟨_, rfl⟩
  rw [hn1] at hll hPl ⊢
  rw [hf1]
  have hbx : (w.alloc (.cells (rootA D1 L1 G1 t1 f1 n1) 63)).heap[w.heap.size]? = some (.cells (rootA D1 L1 G1 t1 f1 n1) 63 (0, 0)) := blk_alloc_new _ _
  have hb1 : Below w.heap.size w (w.alloc (.cells (rootA D1 L1 G1 t1 f1 n1) 63)) := (Below.refl _ w).alloc (Nat.le_refl _) _
  have hz1 : (w.alloc (.cells (rootA D1 L1 G1 t1 f1 n1) 63)).heap.size = w.heap.size + 1 := by simp
  obtain ⟨w1, hw1⟩ : ∃ w1, w.alloc (.cells (rootA D1 L1 G1 t1 f1 n1) 63) = w1 := ⟨_, rfl⟩
  rw [hw1] at hbx hb1 hz1
  have cl : w1.cell? ⟨w.heap.size, 5, none⟩ = some (.int .i64 n1) := by simp [World.cell?, hbx, rootA]
  have hA1 := hA.keep (hb1.block _ hA.lt)
  have hV1 := hV.below hb1 (Nat.le_refl _)
  obtain ⟨d0, _⟩ := hA1.cells
  have hpo := pagesOf_any hA1 hV1.vol hD1 (by omega) n1 (by omega)
  rw [← hPl] at hpo
  have hbk := volBlocks_any hV1.vol hV1.arr hf (by omega)
  obtain ⟨K, hK⟩ : ∃ K, P.length = K := ⟨_, rfl⟩
  obtain ⟨NB, hNB⟩ : ∃ NB, A.nb = NB := ⟨_, rfl⟩
  have hKb : K ≤ NB := by omega
  have hNB' : NB ≤ 1000000000 := by omega
  rw [hK] at hpo
  rw [hNB] at hbk
  have H1 := hide (And.intro hA1 (And.intro hV1 (And.intro hbx (And.intro hb1 (And.intro hz1 (And.intro hpo (And.intro hbk (And.intro hK hNB))))))))
  have hw1' : w.alloc (.cells #[.int .i64 D1, .int .i64 L1, .int .i64 G1, .int .u64 t1, .int .i64 f1, .int .i64 n1] 63) = w1 := hw1
  have HV := hide (And.intro hA hV)
  clear hA hV hbx hb1 hA1 hV1 hpo hbk hz1 hw1 c0 hK hNB hnbf hlaid htab
  unfold rootA
  go_enter Tryz.func57, Tryz.ntmps57
  go_wp2_with fail
  refine H1.out.2.2.2.2.2.1.mono ?_
  rintro e w2 ⟨rfl, hww⟩
  obtain rfl : w1 = w2 := hww.symm
  clear hww
  go_wp2_with fail
  refine H1.out.2.2.2.2.2.2.1.mono ?_
  rintro e w2 ⟨rfl, hww⟩
  obtain rfl : w1 = w2 := hww.symm
  clear hww
  go_wp2_with fail
  obtain ⟨hA1, hV1, hbx, hb1, hz1, hx1, hx2, hK, hNB⟩ := H1.out
  clear hx1 hx2
  refine readPages_region4 hV1.vol hD hL4 hG hn hA1 rfl hbx (by kernel_rfl) rfl rfl rfl ?_
  intro w3 hb3 hrd3 hrow3
  have hA3 := hA1.keep (hb3.block _ hA1.lt)
  have hV3 := hV1.below hb3 (Nat.le_refl _)
  have hbx3 := (hb3.block _ (by omega)).trans hbx
  have hO3 : Outside (F.has p A.n) w w3 := Outside.of_all (hb1.trans (hb3.mono (by omega))) _
  obtain ⟨r, hre⟩ : ∃ r, w1.heap.size + 2 = r := ⟨_, rfl⟩
  obtain ⟨g, hge⟩ : ∃ g, w1.heap.size + 1 = g := ⟨_, rfl⟩
  rw [hre, hge] at hrd3
  rw [hge] at hrow3
  rw [hre]
  have hgr : r ≠ g := by omega
  have hgw : w.heap.size + 1 < g := by omega
  have hrw : w.heap.size + 1 < r := by omega
  obtain ⟨sz, hsz⟩ : ∃ sz, D * 44 - 4 = sz := ⟨_, rfl⟩
  have hI0 : RpI w w.heap.size D L G v p r g A.n sz n1 A F P l D1 L1 G1 t1 f1 0 (.slice none 0 0) (.slice none 0 0) w3 :=
    ⟨by rw [Nat.zero_mul, Nat.zero_min, List.take_zero]; exact World.ownsRow_nil _ _ _ _, World.ownsRow_nil _ _ _ _, ⟨0, 0, 0, hrd3⟩, ⟨_, hrow3⟩, ⟨A.reads, hV3.arr⟩, hO3, hbx3⟩
  have H3 := hide (And.intro hI0 (And.intro hA3 (And.intro hV3 hb3)))
  clear hA1 hV1 hbx hb1 hrd3 hrow3 hA3 hV3 hbx3 hO3 hb3 hI0 cl d0
  rename_i hKK
  refine hKK _ _ ?_
  clear hKK
  simp only [Act.putFrom, Act.put, List.setIfInBounds_toArray, List.set_cons_succ, List.set_cons_zero]
  rw [decide_eq_false (show ¬ NB < K by omega)]
  go_wp2_with fail
  go_loopw [4, 5, 8, 33] (fun up uq nx i wr => RpR w w.heap.size D L G v p r g A.n sz n1 A F P l D1 L1 G1 t1 f1 up uq nx i wr) (fun _ _ _ i _ => K - (intOf i).toNat)
  case atStart => exact ⟨0, Nat.zero_le _, rfl, by rw [hf1], H3.out.1⟩
  case round =>
    obtain ⟨k, hkP, rfl, rfl, hI⟩ := hrel
    rw [hK] at hkP
    by_cases hlt : k < K
    · have hkp : k < P.length := by omega
      have hks : k * sz ≤ n1 := by
        have := pgs_mul (n := n1) hD1 (k := k) (by omega)
        rw [hsz] at this
        exact this
      obtain ⟨pa, pc, hup⟩ := own_slice hI.pk
      rw [show min (k * sz) n1 = k * sz by omega] at hup
      subst hup
      obtain ⟨pl, hpl⟩ : ∃ pl, k * sz = pl := ⟨_, rfl⟩
      obtain ⟨nx, hnx⟩ : ∃ nx, P.getD k 0 = nx := ⟨_, rfl⟩
      have hnxm : nx ∈ P := by rw [← hnx]; simp [List.getD_eq_getElem?_getD, hkp]
      have hnxb := hPn _ hnxm
      obtain ⟨rs, harr⟩ := hI.arr
      obtain ⟨b0, gone, sp, hrd⟩ := hI.rd
      obtain ⟨fr, hrow⟩ := hI.row
      have hArw : ArcAt wr ar v D' L' G' t f nn pg ob off := HV.out.1.keep (hI.out.block _ harl har)
      have hVw : Vol wr v p D L G ps 0 (A.rd rs) F := HV.out.2.turn hF hI.out harr
      have HI := hide (And.intro hI (And.intro harr (And.intro hrd (And.intro hrow (And.intro hArw hVw)))))
      rw [hpl] at hks ⊢
      rw [hnx]
      clear hI harr hrd hrow hArw hVw
      go_wp2_with fail
      obtain ⟨hI, harr, hrd, hrow, hArw, hVw⟩ := HI.out
      refine readPages_region7 hArw hVw.vol hD1 hD hI.box hll hks (by kernel_rfl) rfl rfl rfl rfl ?_
      intro w4 hw4
      obtain ⟨sk, hsk⟩ : ∃ sk, min (n1 - pl) (D * 44 - 4) = sk := ⟨_, rfl⟩
      rw [hsk]
      have hb4 : Below wr.heap.size wr w4 := by rw [hw4]; exact (Below.refl _ wr).drew
      have hpk4 : w4.ownsRow w.heap.size 5 1 (.slice pa pl pc) pl (bts (l.take pl)) := by
        have h1 := hI.pk
        rw [hpl, show min pl n1 = pl by omega] at h1
        rw [hw4]; exact h1
      have hpg4 : w4.ownsRow w.heap.size 3 1 u5 k (ivs (P.take k)) := by rw [hw4]; exact hI.pg
      have hV4 := hVw.below hb4 (Nat.le_refl _)
      have hrd4 := hrd.keep (hb4.block _ hrd.lt)
      have hrow4 := hrow.of_block (hb4.block _ hrow.lt)
      have hbx4 := (hb4.block _ (Array.getElem?_eq_some_iff.1 hI.box).1).trans hI.box
      have hO4 : Outside (F.has p A.n) w w4 := hI.out.trans (Outside.of_all hb4 _)
      have hsk4 : 4 + sk ≤ D * 44 := by omega
      have hdt := data_ok (b := nx) hV4 hF ⟨hf.n, hf.nb, hf.len, hf.byt⟩ hrd4 hrow4 (by show 0 < A.n; omega) hnxb hw (4 + sk) ((4 + sk + 43) / 44) rfl (by omega) (by show (4 + sk + 43) / 44 ≤ A.n; omega) (by omega) (fun i _ => hlost i) (fun i _ => hbad _ hnxm i) (fun i => (stripeL D L G (pageB D P l k)).getD i [])
        (fun i hi => ?ok) (fun i hi => by have := hblk k hkp i (by omega); rw [hnx] at this; exact this) (fun q => by have := hFl _ q; omega) (fun q => by have := hFl _ q; omega) hgr (by omega) (by omega) (by omega) (by omega)
      case ok =>
        have hi' : i < (stripeL D L G (pageB D P l k)).length := by rw [stripeL_len]; omega
        have e : (stripeL D L G (pageB D P l k)).getD i [] = (stripeL D L G (pageB D P l k))[i] := by simp [hi']
        rw [e]; exact stripeL_row hD hG _ i hi'
      have hpl4 : (pageB D P l k).length = 4 + sk := by rw [pageB_len', hsz, hpl, hn1, ← hsk, hsz]
      rw [data_take rfl (by omega) (by rw [hpl4]; exact hsk4) (pageB_lt hlx P k) (by rw [hpl4]; exact Nat.le_refl _), List.take_of_length_le (by rw [hpl4]; exact Nat.le_refl _)] at hdt
      have H4 := hide (And.intro hdt (And.intro hpk4 (And.intro hpg4 (And.intro hrd4 (And.intro hrow4 (And.intro hbx4 (And.intro hO4 hpl4)))))))
      clear hdt hpk4 hpg4 hrd4 hrow4 hbx4 hO4 hpl4 hV4 hI harr hrd hrow hArw hVw hb4 hw4
      rename_i hKK
      refine hKK _ _ ?_
      clear hKK
      simp only [Act.putFrom, Act.put, List.setIfInBounds_toArray, List.set_cons_succ, List.set_cons_zero]
      go_wp2_with fail
      rw [show (4 : Int) + (sk : Int) = ((4 + sk : Nat) : Int) by omega]
      refine H4.out.1.mono ?_
      rintro e w5 ⟨u, rfl, hD5⟩
      obtain ⟨hdt, hpk4, hpg4, hrd4, hrow4, hbx4, hO4, hpl4⟩ := H4.out
      clear hdt
      obtain ⟨ao, uc, hu, huc, _, _, hucell⟩ := hD5.bytes
      rw [hpl4] at hu huc hucell
      obtain ⟨pb, po, rfl, hcell⟩ := hucell (fun e => by rw [e] at hpl4; have h0 : (0 : Nat) = 4 + sk := hpl4; omega)
      subst hu
      have hpbf : w4.heap.size ≤ pb := hD5.fresh pb rfl
      have hz4 := hO4.size
      have hz5 := hD5.out.size
      have hzb : pb < w5.heap.size := block_lt_of_cell (hcell 0 (by omega))
      have hpk5 : w5.ownsRow w.heap.size 5 1 (.slice pa pl pc) pl (bts (l.take pl)) := own_keepO hpk4 hD5.out fun q hq h => by
        rcases h with h | h | h
        · subst h; exact own_apart hpk4 hrd4 (by decide) hq
        · subst h; obtain ⟨cs, hcs, _⟩ := hrow4; exact own_apart hpk4 hcs (by decide) hq
        · have h1 := hFl q h; have h2 := own_ge hpk4 hq; omega
      have hpg5 : w5.ownsRow w.heap.size 3 1 u5 k (ivs (P.take k)) := own_keepO hpg4 hD5.out fun q hq h => by
        rcases h with h | h | h
        · subst h; exact own_apart hpg4 hrd4 (by decide) hq
        · subst h; obtain ⟨cs, hcs, _⟩ := hrow4; exact own_apart hpg4 hcs (by decide) hq
        · have h1 := hFl q h; have h2 := own_ge hpg4 hq; omega
      have hbx5 : w5.heap[w.heap.size]? = some (.cells (rootA D1 L1 G1 t1 f1 n1) 63 (0, 0)) := (hD5.out.block _ (Array.getElem?_eq_some_iff.1 hbx4).1 (fun h => by
        rcases h with h | h | h
        · omega
        · omega
        · have h1 := hFl _ h; omega)).trans hbx4
      have hO5 : Outside (F.has p A.n) w w5 := hO4.later (T := fun q => q = r ∨ q = g ∨ F.has p A.n q) hD5.out fun q hq h => by
        rcases h with h | h | h
        · omega
        · omega
        · exact h
      have hpne : ∀ q, Value.ownBlock (.slice pa pl pc) = some q → q ≠ pb := fun q hq e => by
        obtain ⟨cur, hcur⟩ := own_type hpk4 hq
        have := (Array.getElem?_eq_some_iff.1 hcur).1
        omega
      have hqne : ∀ q, Value.ownBlock u5 = some q → q ≠ pb := fun q hq e => by
        obtain ⟨cur, hcur⟩ := own_type hpg4 hq
        have := (Array.getElem?_eq_some_iff.1 hcur).1
        omega
      have hucs : uc = 4 + sk := by
        obtain ⟨ao', n', hn'⟩ := hD5.cap
        injection hn' with h1 h2 h3
        omega
      subst hucs
      have hcell5 : PgC w5 pb po (4 + sk) (pageB D P l k) := hcell
      have hP1 : (pageB D P l k).take 4 = be (P.getD (k + 1) 0) 4 := by unfold pageB; rw [List.take_append_of_le_length (by rw [be_len]; exact Nat.le_refl _), List.take_of_length_le (by rw [be_len]; exact Nat.le_refl _)]
      have hP2 : (pageB D P l k).drop 4 = (l.drop pl).take sz := by
        unfold pageB
        rw [List.drop_append_of_le_length (by rw [be_len]; exact Nat.le_refl _), List.drop_of_length_le (by rw [be_len]; exact Nat.le_refl _), hsz, hpl]; rfl
      obtain ⟨nx', hnx'⟩ : ∃ nx', P.getD (k + 1) 0 = nx' := ⟨_, rfl⟩
      rw [hnx'] at hP1
      have hnx'b : nx' < 4294967296 := by
        rw [← hnx']
        by_cases h9 : k + 1 < P.length
        · have h8 : P.getD (k + 1) 0 ∈ P := by simp [List.getD_eq_getElem?_getD, h9]
          have := hPn _ h8
          have := hf.nb
          omega
        · simp [List.getD_eq_getElem?_getD, List.getElem?_eq_none (by omega : P.length ≤ k + 1)]
      have hnxe : ofB (be nx' 4) = nx' := ofB_be nx' 4 (by omega) (by omega)
      have hpe : l.take pl ++ (l.drop pl).take sz = l.take (pl + sz) := (List.take_add ..).symm
      have hbq : (Value.slice pa pl pc).ownBlock = none ∨ (Value.slice pa pl pc).ownBlock ≠ u5.ownBlock := by
        cases h8 : (Value.slice pa pl pc).ownBlock with
        | none => exact .inl rfl
        | some q =>
          refine .inr fun e => ?_
          obtain ⟨cur, hcur⟩ := own_type hpk5 h8
          exact own_apart hpg5 hcur (by decide) e.symm
      have hpq : u5.ownBlock ≠ some pb := fun e => hqne pb e rfl
      have hpp : (Value.slice pa pl pc).ownBlock ≠ some pb := fun e => hpne pb e rfl
      have H5 := hide (And.intro hD5 (And.intro hpk5 (And.intro hpg5 (And.intro hbx5 (And.intro hO5 (And.intro hcell5 (And.intro hpl4 (And.intro hP1 (And.intro hP2 (And.intro hbq (And.intro hpq (And.intro hpp (And.intro hnx' (And.intro hpe hpl))))))))))))))
      clear hD5 hpk5 hpg5 hbx5 hO5 hpne hqne hcell hpl4 hpk4 hpg4 hrd4 hrow4 hbx4 hO4 hcell5 hP1 hP2 hbq hpq hpp huc hucell hnx' hpe
      have hk1 : k ≤ 1000000 := by omega
      have hsk1 : sk ≤ 1000000 := by omega
      by_cases hs0 : sk = 0
      · subst hs0
        go_wp2_with (first
          | (show wpList _ _ _ ({ dst := some 57, op := _, type := _, pos := _, after := _, guard := _ } :: _) _ _; refine wpList_append_own_at _ rfl (.tmp 54) (.tmp 56) 64 rfl w.heap.size 3 ii (.int .i64 0) 1 8 Tryz.underlying64 hii hii0 hii1 hii2 rfl (by decide) u5 k (ivs (P.take k)) rfl (by exact H5.out.2.2.1.alloc _) ⟨w5.heap.size, 0, none⟩ 1 1 _ rfl rfl (one_made w5 _ _) (by intro u hu; simp at hu; subst hu; rfl) (by unfold maxLen; omega) (by omega) (by simp; omega) ?_; intro v6 w6 ho6 hg6 hi6 hat6; have H6 := hide (And.intro ho6 (And.intro hg6 (And.intro ((H5.out.2.1.alloc _).kept hg6 H5.out.2.2.2.2.2.2.2.2.2.1) ((H5.out.2.2.2.2.2.1.alloc _).grown hg6 H5.out.2.2.2.2.2.2.2.2.2.2.1)))); have hz6 := hg6.size; clear ho6 hg6 hi6 hat6)
          | (show wpList _ _ _ ({ dst := some 61, op := _, type := _, pos := _, after := _, guard := _ } :: _) _ _; refine wpList_append_from _ rfl (.tmp 58) (.tmp 60) 166 166 rfl w.heap.size 5 ib (.int .u8 0) 1 1 Tryz.underlying166 hib hib0 hib1 hib2 rfl (.slice pa pl pc) pl (bts (l.take pl)) (by rfl) (by exact H6.out.2.2.1) _ (by rfl) 0 ([]) (by exact PgC.src0) (by unfold maxLen; omega) (by omega) (by simp at hz6; omega) ?_; intro v7 w7 ho7 hg7 hat7; have H7 := hide (And.intro ho7 (And.intro hg7 (H6.out.2.2.2.grown hg7 H5.out.2.2.2.2.2.2.2.2.2.2.2.1))); clear ho7 hg7 hat7))
        refine (of_num _ (be nx' 4) w7 (H7.out.2.2.head (by omega) (by omega) H5.out.2.2.2.2.2.2.2.1)).mono ?_
        rintro e w8 ⟨rfl, hww⟩
        obtain rfl : w7 = w8 := hww.symm
        clear hww
        rw [hnxe]
        go_wp2
        go_roundw
        case rel => exact ⟨k + 1, by omega, by go_num, by rw [H5.out.2.2.2.2.2.2.2.2.2.2.2.2.1], rp_step H5.out.1 H5.out.2.2.1 H5.out.2.2.2.1 H5.out.2.2.2.2.1 H6.out.1 H6.out.2.1 H6.out.2.2.1 H7.out.1 H7.out.2.1 hFl (by omega) hkp hnx hsz H5.out.2.2.2.2.2.2.2.2.2.2.2.2.2.2 hsk hks (by rw [show (l.drop pl).take sz = [] from List.length_eq_zero_iff.1 (by rw [List.length_take, List.length_drop, hn1, Nat.min_comm, ← hsz]; exact hsk)]; rfl)⟩
        case measure => simp [intOf]; omega
      · have hs4 : ¬ 4 + sk - 4 = 0 := by omega
        go_wp2_with (first
          | (show wpList _ _ _ ({ dst := some 57, op := _, type := _, pos := _, after := _, guard := _ } :: _) _ _; refine wpList_append_own_at _ rfl (.tmp 54) (.tmp 56) 64 rfl w.heap.size 3 ii (.int .i64 0) 1 8 Tryz.underlying64 hii hii0 hii1 hii2 rfl (by decide) u5 k (ivs (P.take k)) rfl (by exact H5.out.2.2.1.alloc _) ⟨w5.heap.size, 0, none⟩ 1 1 _ rfl rfl (one_made w5 _ _) (by intro u hu; simp at hu; subst hu; rfl) (by unfold maxLen; omega) (by omega) (by simp; omega) ?_; intro v6 w6 ho6 hg6 hi6 hat6; have H6 := hide (And.intro ho6 (And.intro hg6 (And.intro ((H5.out.2.1.alloc _).kept hg6 H5.out.2.2.2.2.2.2.2.2.2.1) ((H5.out.2.2.2.2.2.1.alloc _).grown hg6 H5.out.2.2.2.2.2.2.2.2.2.2.1)))); have hz6 := hg6.size; clear ho6 hg6 hi6 hat6)
          | (show wpList _ _ _ ({ dst := some 61, op := _, type := _, pos := _, after := _, guard := _ } :: _) _ _; refine wpList_append_from _ rfl (.tmp 58) (.tmp 60) 166 166 rfl w.heap.size 5 ib (.int .u8 0) 1 1 Tryz.underlying166 hib hib0 hib1 hib2 rfl (.slice pa pl pc) pl (bts (l.take pl)) (by rfl) (by exact H6.out.2.2.1) _ (by rfl) sk (bts ((pageB D P l k).drop 4)) (by exact H6.out.2.2.2.src H5.out.2.2.2.2.2.2.1) (by unfold maxLen; omega) (by omega) (by simp at hz6; omega) ?_; intro v7 w7 ho7 hg7 hat7; have H7 := hide (And.intro ho7 (And.intro hg7 (H6.out.2.2.2.grown hg7 H5.out.2.2.2.2.2.2.2.2.2.2.2.1))); clear ho7 hg7 hat7))
        refine (of_num _ (be nx' 4) w7 (H7.out.2.2.head (by omega) (by omega) H5.out.2.2.2.2.2.2.2.1)).mono ?_
        rintro e w8 ⟨rfl, hww⟩
        obtain rfl : w7 = w8 := hww.symm
        clear hww
        rw [hnxe]
        go_wp2
        go_roundw
        case rel => exact ⟨k + 1, by omega, by go_num, by rw [H5.out.2.2.2.2.2.2.2.2.2.2.2.2.1], rp_step H5.out.1 H5.out.2.2.1 H5.out.2.2.2.1 H5.out.2.2.2.2.1 H6.out.1 H6.out.2.1 H6.out.2.2.1 H7.out.1 H7.out.2.1 hFl (by omega) hkp hnx hsz H5.out.2.2.2.2.2.2.2.2.2.2.2.2.2.2 hsk hks (by rw [H5.out.2.2.2.2.2.2.2.2.1])⟩
        case measure => simp [intOf]; omega
    · have hkK : k = K := by omega
      have HI := hide hI
      clear hI
      go_wp2
      go_ret3
      have hI := HI.out
      have hend := pgs_end (n := n1) hD1
      rw [← hPl, hK, ← hkK, hsz] at hend
      refine ⟨_, _, rfl, ?_, ?_, hI.arr, hI.out⟩
      · have h1 := hI.pk
        rw [List.take_of_length_le (by omega)] at h1
        exact Bs.of_owns h1 hlx (by omega)
      · have h1 := hI.pg
        rw [List.take_of_length_le (by omega)] at h1
        have hPne : P ≠ [] := fun e => by
          have h2 : 1 ≤ pgs D n1 := Nat.le_max_left _ _
          rw [e] at hPl
          simp at hPl
          omega
        exact (own_ints h1 hPne (by omega) (K := fun k => w.heap.size ≤ k) (fun k hk => hk)).choose_spec.choose_spec.2
end Go.Proofs.YtogdeaaphdlchaaGreatDoor
/-
  Unpack of no bytes: a catalog without objects.
-/
namespace Go.Proofs.YtogdeaaphdlchaaGreatDoor
open Go.RowKit Go.Deep Gf

set_option maxRecDepth 100000 in
set_option maxHeartbeats 1000000 in
theorem convert_none (ao : Option Addr) (a : Nat) (w : World) : (convert 166 9 (.slice ao 0 a)).run Tryz.prog w = .ok (.string ByteArray.empty) w := by
  rw [run_convert_bytes_string w 166 9 5 ao 0 a Tryz.underlying166 Tryz.underlying5 Tryz.underlying9]
  cases ao <;> simp [Conv.bytesToString, loadCells, loadCellsFrom]
theorem equal_nil {ao bo : Option Addr} (a b : Nat) (w : World) : Calls Tryz.prog 83 #[.slice ao 0 a, .slice bo 0 b] w fun e w' => e = .returned (.bool true) ∧ w' = w := by
  have h1 := convert_none ao a
  have h2 := convert_none bo b
  go_enter Tryz.func83, Tryz.ntmps83
  go_wp2
  go_ret
  exact ⟨rfl, rfl⟩
def UnR0 (w : World) (ao : Option Addr) (c : Nat) (o u : Value) (wr : World) : Prop := o = .slice none 0 0 ∧ u = .slice ao 0 c ∧ wr = w
set_option maxRecDepth 100000 in
set_option maxHeartbeats 1000000 in
theorem unpack_nil {ao : Option Addr} (c : Nat) (s : Int) (w : World) : Calls Tryz.prog 58 #[.slice ao 0 c, .int .i64 s] w fun e w' => e = .returned (.tuple #[.slice none 0 0, .bool true]) ∧ Below w.heap.size w w' := by
  go_enter Tryz.func58, Tryz.ntmps58
  go_wp2_with fail
  go_loopw [6, 7] (fun o u wr => UnR0 w ao c o u wr) (fun _ _ _ => 0)
  case atStart => exact ⟨rfl, rfl, rfl⟩
  case round =>
    obtain ⟨rfl, rfl, hww⟩ := hrel
    obtain rfl : w = wr := hww.symm
    clear hww
    go_wp2_with fail
    refine (pack_nil w).mono ?_
    rintro e w1 ⟨⟨b, rfl⟩, hb⟩
    have H := hide hb
    clear hb
    go_wp2_with fail
    refine (equal_nil 0 c w1).mono ?_
    rintro e w2 ⟨rfl, rfl⟩
    go_wp2
    go_ret2
    exact ⟨rfl, H.out⟩
end Go.Proofs.YtogdeaaphdlchaaGreatDoor
