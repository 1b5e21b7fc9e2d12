import Derived.Test.YtogdeaaphdlchaaGreatDoorPart23
/-
  One region of the law Any, which draws its order and holds a call.
-/
namespace Go.Proofs.YtogdeaaphdlchaaGreatDoor
open Go.RowKit Go.Deep Gf

def mk6 (l : List Nat) : Array Bool := l.foldl (fun a i => a.setIfInBounds i true) (Array.replicate 6 false)
theorem shl_run (N : Nat) (hN : N ≤ 16) {o : Oper} {a : Act} {y : Operand} (ho : o.op = .binOp .shl 61 (.const (.int .u64 1)) y 3) (hy : a.eval y = .int .i64 (N : Nat)) (w : World) :
    (execOp a.eval o).run Tryz.prog w = .ok (.value (.int .u64 (IntKind.u64.wrap (2 ^ N)))) w := by
  have hc : a.eval (.const (.int .u64 1)) = .int .u64 1 := rfl
  simp only [execOp, ho, hy, hc]
  go_simp
theorem sub_run (x z : Int) (hz : IntKind.u64.wrap (x - 1) = z) {o : Oper} {a : Act} {y : Operand} (ho : o.op = .binOp .sub 61 y (.const (.int .u64 1)) 61) (hy : a.eval y = .int .u64 x) (w : World) :
    (execOp a.eval o).run Tryz.prog w = .ok (.value (.int .u64 z)) w := by
  have hc : a.eval (.const (.int .u64 1)) = .int .u64 1 := rfl
  simp only [execOp, ho, hy, hc]
  go_simp
theorem loadParams_run (b : Nat) (D L G : Int) {o : Oper} {a : Act} {x : Operand} (ho : o.op = .load 23 x) (hx : a.eval x = .pointer (some ⟨b, 0, none⟩)) (w : World) (p0 : w.cell? ⟨b, 0, none⟩ = some (.int .i64 D)) (p1 : w.cell? ⟨b, 1, none⟩ = some (.int .i64 L)) (p2 : w.cell? ⟨b, 2, none⟩ = some (.int .i64 G)) :
    (execOp a.eval o).run Tryz.prog w = .ok (.value (.agg #[.int .i64 D, .int .i64 L, .int .i64 G])) w := by
  simp only [execOp, ho, hx]
  go_simp
theorem yields_assign {P : Program} {ops : Array Oper} {o : Oper} {a : Act} {x : Operand} {v : Value} (hg : o.guard = none) (ho : o.op = .assign x) (hx : a.eval x = v) : Yields P ops o v a :=
  .inl ⟨wanted_of hg, fun w => by simp [execOp, ho, hx]⟩
def act16 (a : Act) (D L G N A : Int) (b : Bool) : Act :=
  (((((a.put (some 55) (.int .i64 N)).put (some 56) (.int .u64 (IntKind.u64.wrap (2 ^ N.toNat)))).put (some 57) (.int .u64 A)).put (some 54) (.agg #[.int .i64 D, .int .i64 L, .int .i64 G])).put (some 58) (.bool b)).put (some 15) (.bool b)
end Go.Proofs.YtogdeaaphdlchaaGreatDoor
/-
  The law Any: its walk.
-/
namespace Go.Proofs.YtogdeaaphdlchaaGreatDoor
open Go.RowKit Go.Deep Gf

theorem bit_and (x y i : Nat) : (x &&& y) / 2 ^ i % 2 = (x / 2 ^ i % 2) * (y / 2 ^ i % 2) := by
  have h := Nat.testBit_and x y i
  simp only [Nat.testBit_eq_decide_div_mod_eq] at h
  rcases Nat.mod_two_eq_zero_or_one (x / 2 ^ i) with a | a <;> rcases Nat.mod_two_eq_zero_or_one (y / 2 ^ i) with b | b <;> rcases Nat.mod_two_eq_zero_or_one ((x &&& y) / 2 ^ i) with c | c <;> simp [a, b, c] at h ⊢
theorem bit_all (n i : Nat) (h : i < n) : (2 ^ n - 1) / 2 ^ i % 2 = 1 := by
  have := Nat.testBit_two_pow_sub_one n i
  rw [Nat.testBit_eq_decide_div_mod_eq] at this
  simpa [h] using this
def AnR (lost n : Nat) (cv iv : Value) : Prop := ∃ k : Nat, k ≤ n ∧ iv = .int .i64 k ∧ cv = .int .i64 (cnt lost k : Nat)
theorem rshards_nat (D L G N : Nat) (hN : D + L + G = N) (h16 : N ≤ 16) (w : World) :
    Calls Tryz.prog 9 #[.agg #[.int .i64 D, .int .i64 L, .int .i64 G]] w fun e w' => e = .returned (.int .i64 (N : Nat)) ∧ Below w.heap.size w w' := by
  refine (rshards_any D L G w (by omega) (by omega) (by omega)).mono ?_
  rintro e w' ⟨rfl, hb⟩
  have e : ((D : Int) + L + G) = ((N : Nat) : Int) := by omega
  exact ⟨by rw [e], hb⟩
end Go.Proofs.YtogdeaaphdlchaaGreatDoor
/-
  load: over an array that is new.
-/
namespace Go.Proofs.YtogdeaaphdlchaaGreatDoor
open Go.RowKit Go.Deep Gf

theorem svLast_blank {R : Nat → Option Rec} : ∀ k, (∀ i, i < k → R i = some .blank) → svLast R k = ⟨0, 0, 0, 0, 0, 0⟩
  | 0, _ => rfl
  | k + 1, h => by
    show svStep (svLast R k) (R k) = _
    rw [h k (by omega), svLast_blank k fun i hi => h i (by omega)]; rfl
theorem or_pow (k : Nat) : (2 ^ k - 1) ||| 2 ^ k = 2 ^ (k + 1) - 1 := by
  refine Nat.eq_of_testBit_eq fun i => ?_
  rw [Nat.testBit_or, Nat.testBit_two_pow_sub_one, Nat.testBit_two_pow_sub_one, Nat.testBit_two_pow]
  by_cases h : k = i
  · subst h; simp
  · by_cases h2 : i < k
    · simp [h2]; omega
    · simp [h, h2]; omega
theorem svBlank_blank {R : Nat → Option Rec} : ∀ k, (∀ i, i < k → R i = some .blank) → svBlank R k = 2 ^ k - 1
  | 0, _ => rfl
  | k + 1, h => by
    show svOr (svBlank R k) k (R k) = _
    rw [h k (by omega), svBlank_blank k fun i hi => h i (by omega)]
    exact or_pow k
/-- with none of the shards lost -/
theorem told_none {D L G lost : Nat} (hD : D ≤ 12) (hG : G ≤ 4) (h : ∀ i, i < D + L + G → lost / 2 ^ i % 2 = 0) : Told D L G lost := by
  have hc : ∀ k, k ≤ D + L + G → cnt lost k = 0 := by
    intro k hk
    induction k with
    | zero => rfl
    | succ k ih => rw [cnt_succ, ih (by omega), h k (by omega)]; rfl
  exact any_full D L G lost hD hG (rem_byte (fun l hl => mat_byte D L G hD hG l (keep_mem _ _ _ (by rw [mat_len]; omega) l hl)) 0) (by rw [hc _ (Nat.le_refl _)]; omega)
theorem high_bits {n i : Nat} (hn : n ≤ 60) (hi : i < n) : (18446744073709551615 - (2 ^ n - 1)) / 2 ^ i % 2 = 0 := by
  have h1 : 18446744073709551615 - (2 ^ n - 1) = 2 ^ (i + 1) * (2 ^ (63 - i) - 2 ^ (n - i - 1)) := by
    rw [Nat.mul_sub, ← Nat.pow_add, ← Nat.pow_add, show i + 1 + (63 - i) = 64 by omega, show i + 1 + (n - i - 1) = n by omega]
    have : 0 < 2 ^ n := Nat.two_pow_pos n
    omega
  rw [h1, Nat.pow_succ, Nat.mul_assoc, Nat.mul_div_cancel_left _ (Nat.two_pow_pos i), Nat.mul_mod_right]
theorem xor_all (x : Nat) (h : x < 2 ^ 64) : (2 ^ 64 - 1) ^^^ x = 2 ^ 64 - 1 - x := by
  refine Nat.eq_of_testBit_eq fun i => ?_
  rw [Nat.testBit_xor, Nat.testBit_two_pow_sub_one, show 2 ^ 64 - 1 - x = 2 ^ 64 - (x + 1) by omega, Nat.testBit_two_pow_sub_succ h]
  by_cases hi : i < 64
  · simp [hi]
  · have : x.testBit i = false := Nat.testBit_lt_two_pow (Nat.lt_of_lt_of_le h (Nat.pow_le_pow_right (by decide) (by omega)))
    simp [hi, this]
theorem not_u64 (x : Nat) (h : x < 18446744073709551616) : bits .xor .u64 IntKind.u64.max (x : Int) = ((18446744073709551615 - x : Nat) : Int) := by
  have := bits_xor_u64_nat 18446744073709551615 x (by decide) h
  rw [show (18446744073709551615 : Nat) = 2 ^ 64 - 1 by decide, xor_all x (by omega)] at this
  exact this
set_option maxRecDepth 100000 in
set_option maxHeartbeats 2000000 in
theorem load_new {w : World} {ar v p D L G ps ho : Nat} {A : Arr} {F : Foot} (ha : ArcAt w ar v 0 0 0 0 0 0 (.slice none 0 0) (.slice none 0 0) false) (hV : Vol w v p D L G ps ho A F) (hF : Free F p A.n v) (har : ¬ F.has p A.n ar) (hf : A.fit) (hn : A.n = D + L + G) (hr : rightB D L G = true) (hD1 : 1 ≤ D) (hD : D ≤ 12) (hL : 1 ≤ L) (hL4 : L ≤ 4) (hG : G ≤ 4) (hdiv : D % L = 0) (h16 : D + L + G ≤ 16)
    (hnb : 3 ≤ A.nb) (hw : A.wait < 0) (hlost : ∀ i, A.lost i = false) (hbad : ∀ d, A.bad d 0 = false) (hz : ∀ i, i < A.n → A.blk i 0 = zb) :
    Calls Tryz.prog 20 #[.pointer (some ⟨ar, 0, none⟩)] w fun e w' => e = .returned .nilIface ∧ ArrAt w' p (newArc (A.readTo A.n) D L G) F ∧ (∃ u, ArcAt w' ar v D L G 1 2 0 u (.slice none 0 0) false ∧ Ints (fun k => w.heap.size ≤ k) w' u [2]) ∧ Outside (fun k => k = ar ∨ F.has p A.n k) w w' := by
  obtain ⟨c0, _⟩ := ha.cells
  have hrc := readCopies_ok hV hF hf 0 hn hD hL4 hG (by omega) (by omega) hlost hbad (fun _ => .blank) (fun _ => trivial) (fun _ => makes_blank) hz
  go_enter Tryz.func20, Tryz.ntmps20
  go_wp2_with fail
  refine hrc.mono ?_
  rintro e w1 ⟨g, rfl, hg, hrow, hA1, hO1⟩
  have ha1 := ha.keep (hO1.block _ ha.lt har)
  have hV1 := hV.turn hF hO1 hA1
  have hN16 : A.n ≤ 16 := by omega
  obtain ⟨N, hN⟩ : ∃ N, A.n = N := ⟨_, rfl⟩
  have hlr := lastRoot_any (N := A.n) (fun _ => some .blank) (by omega) (w := w1) hrow
  rw [svLast_blank _ (fun _ _ => rfl), show rtA ⟨0, 0, 0, 0, 0, 0⟩ = rootA 0 0 0 0 0 0 from rfl, hN] at hlr
  have H1 := hide (And.intro ha1 (And.intro hV1 (And.intro hO1 (And.intro hrow (And.intro hlr (And.intro hN hn))))))
  rw [hN] at hN16
  clear ha1 hV1 hO1 hrow hlr hA1 hrc hn
  rw [hN]
  clear hN
  go_wp2_with fail
  refine H1.out.2.2.2.2.1.mono ?_
  rintro e w2 ⟨rfl, hb2⟩
  have hzw := root_zero
  obtain ⟨ha1, hV1, hO1, hrow, _, hN, hn⟩ := H1.out
  have hb3 : Below w1.heap.size w1 (rootVar w2 0 0 0 0 0 0) := hb2.trans ((rootVar_below w2 0 0 0 0 0 0).mono hb2.size)
  have ha3 := ha1.keep (hb3.block _ ha1.lt)
  have hV3 := hV1.below hb3 (Nat.le_refl _)
  have hR3 := hrow.of_block (hb3.block g hrow.lt)
  have hr3 := rootVar_at w2 0 0 0 0 0 0
  obtain ⟨w3, hw3⟩ : ∃ w3, rootVar w2 0 0 0 0 0 0 = w3 := ⟨_, rfl⟩
  rw [hw3] at hb3 ha3 hV3 hR3 hr3
  have c5 : w3.cell? ⟨w2.heap.size, 3, none⟩ = some (.int .u64 0) := by simp [World.cell?, hr3, rootA]
  obtain ⟨d0, _⟩ := ha3.cells
  have hO3 : Outside (F.has p A.n) w w3 := hO1.trans (Outside.of_all hb3 _)
  have H3 := hide (And.intro ha3 (And.intro hV3 (And.intro hR3 (And.intro hO3 hw3))))
  clear ha1 hV1 hO1 hrow hb2 hb3 ha3 hV3 hR3 hr3 hO3 hw3 c0
  go_wp2_with (show wpList _ _ _ ({ dst := none, op := Op.store 63 (.tmp 4) (.tmp 11), type := _, pos := _, after := _, guard := _ } :: _) _ _; refine rt_new (w := w2) (D := 0) (L := 0) (G := 0) (t := 0) (f := 0) (n := 0) rfl (.tmp 4) (.tmp 11) rfl (by rfl) (by rfl) ?_; rw [H3.out.2.2.2.2])
  go_quiet (fail)
  have hb34 : Below w3.heap.size w3 (w3.drewN nq) := ⟨rfl, rfl, rfl, Nat.le_refl _, fun _ _ => rfl⟩
  have c5' : (w3.drewN nq).cell? ⟨w2.heap.size, 3, none⟩ = some (.int .u64 0) := c5
  have d0' : (w3.drewN nq).cell? ⟨ar, 0, none⟩ = some (.pointer (some ⟨v, 0, none⟩)) := d0
  obtain ⟨w4, hw4⟩ : ∃ w4, w3.drewN nq = w4 := ⟨_, rfl⟩
  rw [hw4] at hb34 c5' d0' ⊢
  obtain ⟨ha3, hV3, hR3, hO3, _⟩ := H3.out
  have ha4 := ha3.keep (hb34.block _ ha3.lt)
  have hV4 := hV3.below hb34 (Nat.le_refl _)
  have hR4 := hR3.of_block (hb34.block g hR3.lt)
  have hO4 : Outside (F.has p A.n) w w4 := hO3.trans (Outside.of_all hb34 _)
  have H4 := hide (And.intro ha4 (And.intro hV4 (And.intro hR4 hO4)))
  clear ha3 hV3 hR3 hO3 ha4 hV4 hR4 hO4 hb34 c5 d0 hw4
  go_wp2_with fail
  refine (volParams_any H4.out.2.1.vol).mono ?_
  rintro e w5 ⟨rfl, hb5⟩
  obtain ⟨ha4, hV4, hR4, hO4⟩ := H4.out
  have hR5 := hR4.of_block (hb5.block g hR4.lt)
  have hbk := blanks_any (N := A.n) (fun _ => some .blank) (by omega) (w := w5) hR5
  rw [svBlank_blank _ (fun _ _ => rfl), hN] at hbk
  obtain ⟨X, hX⟩ : ∃ X, 2 ^ N - 1 = X := ⟨_, rfl⟩
  have hXl : X < 18446744073709551616 := by rw [← hX]; have := pow64 (k := N) (by omega); omega
  have key := not_u64 X hXl
  rw [hX] at hbk
  have hT : Told D L G (18446744073709551615 - X) := told_none hD hG fun i hi => by rw [← hX]; exact high_bits (by omega) (by omega)
  have H5 := hide (And.intro hb5 (And.intro hbk (And.intro hT hn)))
  clear ha4 hV4 hR4 hO4 hb5 hR5 hbk hX hT hn hN
  go_wp2_with fail
  refine H5.out.2.1.mono ?_
  rintro e w6 ⟨rfl, hb6⟩
  have hb46 : Below w4.heap.size w4 w6 := H5.out.1.trans (hb6.mono H5.out.1.size)
  have H6 := hide hb46
  clear hb46 hb6
  go_wp2_with fail
  refine (decodable_right D L G (18446744073709551615 - X) hr hD hL hL4 hG hdiv (by omega) w6).mono ?_
  rintro e w7 ⟨bb, rfl, hbb, hb7⟩
  rw [hbb.2 H5.out.2.2.1]
  obtain ⟨ha4, hV4, hR4, hO4⟩ := H4.out
  have hb47 : Below w4.heap.size w4 w7 := H6.out.trans (hb7.mono H6.out.size)
  have ha7 := ha4.keep (hb47.block _ ha4.lt)
  have hV7 := hV4.below hb47 (Nat.le_refl _)
  have hbg := begin_new ha7 hV7 hF har (hf.readTo _) H5.out.2.2.2 hr hD1 hD hL hL4 hG hdiv h16 hnb hw hlost
  have hO7 : Outside (F.has p A.n) w w7 := hO4.trans (Outside.of_all hb47 _)
  have H7 := hide (And.intro hbg hO7)
  clear ha4 hV4 hR4 hO4 hb47 ha7 hV7 hbg hO7 hbb hb7 c5' d0' key
  go_wp2_with fail
  refine H7.out.1.mono ?_
  rintro e w8 ⟨rfl, hA8, ha8, hO8⟩
  have H8 := hide (And.intro hA8 (And.intro ha8 hO8))
  clear hA8 ha8 hO8
  go_wp2
  go_ret
  obtain ⟨u, hu1, hu2⟩ := H8.out.2.1
  exact ⟨rfl, H8.out.1, ⟨u, hu1, hu2.weaken fun k hk => Nat.le_trans H7.out.2.size hk⟩, (H7.out.2.mono fun _ _ q => .inr q).trans H8.out.2.2⟩
end Go.Proofs.YtogdeaaphdlchaaGreatDoor
/-
  load: over an archive of other params.
-/
namespace Go.Proofs.YtogdeaaphdlchaaGreatDoor
open Go.RowKit Go.Deep Gf

theorem svLast_root {R : Nat → Option Rec} {D L G t f n : Nat} (ht : 0 < t) : ∀ k, (∀ i, i < k + 1 → R i = some (.root D L G t f n)) → svLast R (k + 1) = ⟨D, L, G, t, f, n⟩
  | 0, h => by
    show svStep (svLast R 0) (R 0) = _
    rw [h 0 (by omega)]; exact if_pos ht
  | k + 1, h => by
    show svStep (svLast R (k + 1)) (R (k + 1)) = _
    rw [h (k + 1) (by omega), svLast_root ht k fun i hi => h i (by omega)]; exact if_neg (Nat.lt_irrefl t)
theorem svBlank_none {R : Nat → Option Rec} : ∀ k, (∀ i, i < k → R i = some .filled) → svBlank R k = 0
  | 0, _ => rfl
  | k + 1, h => by
    show svOr (svBlank R k) k (R k) = _
    rw [h k (by omega), svBlank_none k fun i hi => h i (by omega)]; rfl
set_option maxRecDepth 100000 in
set_option maxHeartbeats 2000000 in
theorem load_other {w : World} {ar v p D L G ps ho D1 L1 G1 t f m : Nat} {A : Arr} {F : Foot} (ha : ArcAt w ar v 0 0 0 0 0 0 (.slice none 0 0) (.slice none 0 0) false) (hV : Vol w v p D L G ps ho A F) (hF : Free F p A.n v) (har : ¬ F.has p A.n ar) (hf : A.fit) (hn : A.n = D + L + G) (hD1 : 1 ≤ D) (hD : D ≤ 12) (hL4 : L ≤ 4) (hG : G ≤ 4)
    (hnb : 3 ≤ A.nb) (hw : A.wait < 0) (hlost : ∀ i, A.lost i = false) (hbad : ∀ d, A.bad d 0 = false) (hok : (Rec.root D1 L1 G1 t f m).ok) (ht : 0 < t) (hz : ∀ i, i < A.n → A.blk i 0 = (Rec.root D1 L1 G1 t f m).blk) (hne : ¬ (D1 = D ∧ L1 = L ∧ G1 = G)) :
    Calls Tryz.prog 20 #[.pointer (some ⟨ar, 0, none⟩)] w fun e w' => e = .returned (.iface 34 (.int .i64 1)) ∧ ArrAt w' p (A.readTo A.n) F ∧ Outside (F.has p A.n) w w' := by
  obtain ⟨c0, _⟩ := ha.cells
  have hrc := readCopies_ok hV hF hf 0 hn hD hL4 hG (by omega) (by omega) hlost hbad (fun _ => .root D1 L1 G1 t f m) (fun _ => hok) (fun _ => makes_root hok) hz
  go_enter Tryz.func20, Tryz.ntmps20
  go_wp2_with fail
  refine hrc.mono ?_
  rintro e w1 ⟨g, rfl, hg, hrow, hA1, hO1⟩
  have ha1 := ha.keep (hO1.block _ ha.lt har)
  have hV1 := hV.turn hF hO1 hA1
  have hN16 : A.n ≤ 20 := by omega
  obtain ⟨N, hN⟩ : ∃ N, A.n = N := ⟨_, rfl⟩
  have hlr := lastRoot_any (N := A.n) (fun _ => some (.root D1 L1 G1 t f m)) (by omega) (w := w1) hrow
  rw [show A.n = (A.n - 1) + 1 by omega, svLast_root ht (A.n - 1) (fun _ _ => rfl), show A.n - 1 + 1 = A.n by omega, show rtA ⟨D1, L1, G1, t, f, m⟩ = rootA D1 L1 G1 t f m from rfl, hN] at hlr
  have H1 := hide (And.intro ha1 (And.intro hV1 (And.intro hO1 (And.intro hrow (And.intro hlr (And.intro hN hn))))))
  rw [hN] at hN16
  clear ha1 hV1 hO1 hrow hlr hA1 hrc hn
  rw [hN]
  clear hN
  go_wp2_with fail
  refine H1.out.2.2.2.2.1.mono ?_
  rintro e w2 ⟨rfl, hb2⟩
  have hzw := root_zero
  obtain ⟨ha1, hV1, hO1, hrow, _, hN, hn⟩ := H1.out
  have hb3 : Below w1.heap.size w1 (rootVar w2 D1 L1 G1 t f m) := hb2.trans ((rootVar_below w2 D1 L1 G1 t f m).mono hb2.size)
  have ha3 := ha1.keep (hb3.block _ ha1.lt)
  have hV3 := hV1.below hb3 (Nat.le_refl _)
  have hr3 := rootVar_at w2 D1 L1 G1 t f m
  obtain ⟨w3, hw3⟩ : ∃ w3, rootVar w2 D1 L1 G1 t f m = w3 := ⟨_, rfl⟩
  rw [hw3] at hb3 ha3 hV3 hr3
  have hO3 : Outside (F.has p A.n) w w3 := hO1.trans (Outside.of_all hb3 _)
  have H3 := hide (And.intro ha3 (And.intro hV3 (And.intro hr3 (And.intro hO3 hw3))))
  clear ha1 hV1 hO1 hrow hb2 hb3 ha3 hV3 hr3 hO3 hw3 c0
  go_wp2_with (show wpList _ _ _ ({ dst := none, op := Op.store 63 (.tmp 4) (.tmp 11), type := _, pos := _, after := _, guard := _ } :: _) _ _; refine rt_new (w := w2) (D := D1) (L := L1) (G := G1) (t := t) (f := f) (n := m) rfl (.tmp 4) (.tmp 11) rfl (by rfl) (by rfl) ?_; rw [H3.out.2.2.2.2])
  obtain ⟨ha3, hV3, hr3, hO3, hw3⟩ := H3.out
  clear hw3
  refine load_region hV3.vol ha3 rfl hr3 ht (by kernel_rfl) rfl rfl rfl ?_
  intro w4 hb4
  have hne' : ¬ ((D1 : Int) = D ∧ (L1 : Int) = L ∧ (G1 : Int) = G) := fun q => hne ⟨by omega, by omega, by omega⟩
  rw [decide_eq_false hne']
  have hV4 := hV3.below hb4 (Nat.le_refl _)
  have hO4 : Outside (F.has p A.n) w w4 := hO3.trans (Outside.of_all hb4 _)
  have H4 := hide (And.intro hV4 hO4)
  clear ha3 hV3 hr3 hO3 hV4 hO4 hb4 hne'
  rename_i hKK
  refine hKK _ _ ?_
  clear hKK
  simp only [Act.putFrom, Act.put, List.setIfInBounds_toArray, List.set_cons_succ, List.set_cons_zero]
  go_wp2
  go_ret
  exact ⟨rfl, H4.out.1.arr, H4.out.2⟩
end Go.Proofs.YtogdeaaphdlchaaGreatDoor
/-
  resume: its regions that draw.
-/
namespace Go.Proofs.YtogdeaaphdlchaaGreatDoor
open Go.RowKit Go.Deep Gf

def VR1 (w : World) (N : Nat) (vs : List Value) (i : Nat) (u : Value) (w' : World) : Prop := if i = 8 then ∃ g, u = .slice (some ⟨g, 0, none⟩) N N ∧ w.heap.size ≤ g ∧ w'.rowIs g 125 N (fun _ => recV .filled) else u = vs.getD i undef
theorem VR1_at {w w' : World} {N i : Nat} {vs : List Value} {u : Value} (h : i ≠ 8) (q : VR1 w N vs i u w') : u = vs.getD i undef := by unfold VR1 at q; rwa [if_neg h] at q
theorem VR1_mk {w w' : World} {N i : Nat} {vs : List Value} {u : Value} (h : i ≠ 8) (q : u = vs.getD i undef) : VR1 w N vs i u w' := by unfold VR1; rwa [if_neg h]
theorem VR1_to {w w1 w2 : World} {N i : Nat} {vs : List Value} {u : Value} (h : i ≠ 8) (q : VR1 w N vs i u w1) : VR1 w N vs i u w2 := VR1_mk h (VR1_at h q)
theorem VR1_keep {w w1 w2 : World} {N i : Nat} {vs : List Value} {u : Value} (hk : ∀ k, w.heap.size ≤ k → k < w1.heap.size → w2.heap[k]? = w1.heap[k]?) (q : VR1 w N vs i u w1) : VR1 w N vs i u w2 := by
  by_cases h : i = 8
  · subst h
    unfold VR1 at q ⊢
    rw [if_pos rfl] at q ⊢
    obtain ⟨g, q1, q2, q3⟩ := q
    exact ⟨g, q1, q2, q3.of_block (hk g q2 q3.lt)⟩
  · exact VR1_to h q
def arR1 (A : Arr) (D : Nat → Bool) : Arr := if D 8 = true then A.readTo A.n else A
def BR1 (w0 : World) (v p D L G ps : Nat) (A : Arr) (F : Foot) (Dn : Nat → Bool) (w : World) : Prop := ArrAt w p (arR1 A Dn) F ∧ Outside (fun k => k = v ∨ F.has p A.n k) w0 w ∧ VolAt w v p D L G ps 0
theorem BR1_upd {w0 : World} {v p D L G ps : Nat} {A : Arr} {F : Foot} {Dn : Nat → Bool} {w : World} (h : BR1 w0 v p D L G ps A F Dn w) (i : Nat) (hi : 8 ≠ i) : BR1 w0 v p D L G ps A F (upd Dn i) w := by
  refine ⟨?_, h.2⟩
  have e : arR1 A (upd Dn i) = arR1 A Dn := by unfold arR1; rw [upd_ne hi]
  rw [e]; exact h.1
noncomputable def RM1 : Array Oper := ((Tryz.f32.body.bind (rgf · 1))).getD #[]
def shM1 : List (Op × Option Nat × List Nat) := [(Op.move (Operand.tmp 0), some 8, []),
    (Op.nilCheck (Operand.tmp 8), some 9, [0]),
    (Op.fieldAddr 68 (Operand.tmp 9) 0, some 10, [1]),
    (Op.load 59 (Operand.tmp 10), some 11, [2]),
    (Op.move (Operand.tmp 0), some 12, []),
    (Op.nilCheck (Operand.tmp 12), some 13, [4]),
    (Op.fieldAddr 68 (Operand.tmp 13) 0, some 14, [5]),
    (Op.load 59 (Operand.tmp 14), some 15, [6]),
    (Op.call { callee := Callee.value (Operand.func 29), args := #[Operand.tmp 15, Operand.const (Value.int IntKind.i64 1)], argTypes := #[59, 3] }, some 16, [7]),
    (Op.call { callee := Callee.value (Operand.func 34), args := #[Operand.tmp 16], argTypes := #[93] }, some 17, [8, 8]),
    (Op.nilCheck (Operand.tmp 11), some 18, [3, 0, 1, 2, 3, 4, 5, 6, 7, 8, 9]),
    (Op.fieldAddr 91 (Operand.tmp 18) 3, some 19, [10, 0, 1, 2, 3, 4, 5, 6, 7, 8, 9]),
    (Op.store 89 (Operand.tmp 19) (Operand.tmp 17), none, [11, 9, 9, 0, 1, 2, 3, 4, 5, 6, 7, 8, 9])]
theorem RM1_shape : RegShape RM1 8 20 shM1 := regShape (by kernel_rfl) (by kernel_rfl)
def vsM1 (ar v : Nat) : List Value := [.pointer (some ⟨ar, 0, none⟩), .pointer (some ⟨ar, 0, none⟩), .pointer (some ⟨ar, 0, none⟩), .pointer (some ⟨v, 0, none⟩), .pointer (some ⟨ar, 0, none⟩), .pointer (some ⟨ar, 0, none⟩), .pointer (some ⟨ar, 0, none⟩), .pointer (some ⟨v, 0, none⟩), undef, .int .u64 0, .pointer (some ⟨v, 0, none⟩), .pointer (some ⟨v, 5, none⟩), undef]
set_option maxRecDepth 100000 in
set_option maxHeartbeats 1000000 in
theorem resume_region1 {ops : Array Oper} {Q : Exit → Act → World → Prop} {a : Act} {w : World} {ar v p D L G ps : Nat} {A : Arr} {F : Foot} {cs : Array Value} (hV : Vol w v p D L G ps 0 A F) (hF : Free F p A.n v) (hnar : ¬ F.has p A.n ar) (hvar : v ≠ ar) (har : w.heap[ar]? = some (.cells cs 68 (0, 0))) (h0 : cs[0]? = some (.pointer (some ⟨v, 0, none⟩))) (hf : A.fit) (hn : A.n = D + L + G) (hD : D ≤ 12) (hL : L ≤ 4) (hG : G ≤ 4) (hnb : 1 < A.nb) (hw : A.wait ≠ 0) (hlost : ∀ i, A.lost i = false) (hbad : ∀ d, A.bad d 1 = false) (he : ∀ i, i < A.n → A.blk i 1 = Rec.filled.blk) (hvK : 3 ≤ v) (hops : RM1 = ops) (hsz : a.tmps.size = 37)
    (e0 : a.eval (.tmp 0) = .pointer (some ⟨ar, 0, none⟩))
    (hQ : ∀ (w' : World), ∀ (vs : List Value), vs.length = 12 → ArrAt w' p (A.readTo A.n) F → Outside (fun k => k = v ∨ F.has p A.n k) w w' → VolAt w' v p D L G ps 0 → Q .normal (Act.putFrom a 8 vs) w') : (Code.region 1 ops true).wp Tryz.prog Q a w := by
  subst hops
  have harl : ar < w.heap.size := (Array.getElem?_eq_some_iff.1 har).1
  have hvl := hV.vol.lt
  have hFl : ∀ k, F.has p A.n k → k < w.heap.size := fun k hk => hV.arr.has_lt hk
  have har' : ∀ w', Outside (fun k => k = v ∨ F.has p A.n k) w w' → w'.cell? ⟨ar, 0, none⟩ = some (.pointer (some ⟨v, 0, none⟩)) := fun w' hO => by
    have := (hO.block ar harl (fun q => q.elim (fun e => hvar e.symm) hnar)).trans har
    simp [World.cell?, this, h0]
  refine region_factsS (by kernel_rfl) RM1_shape a w (by omega) (VR1 w A.n (vsM1 ar v)) (BR1 w v p D L G ps A F) ⟨hV.arr.keep fun _ _ => rfl, Outside.drew w, hV.vol⟩ ?_ ?_
  · intro i hi
    match i, hi with
    | 0, _ =>
      intro o a' w' Dn hg ho hdst hk hDi hcl hdep hB hV'
      have u0 : a'.eval (.tmp 0) = .pointer (some ⟨ar, 0, none⟩) := (hk.slot 0 (by omega)).trans e0
      exact op_val (run_op_move ho u0 w') hdst ⟨BR1_upd hB 0 (by decide), VR1_mk (by decide) rfl, fun _ _ _ q => q⟩
    | 1, _ =>
      intro o a' w' Dn hg ho hdst hk hDi hcl hdep hB hV'
      have u0 : a'.eval (.tmp 8) = .pointer (some ⟨ar, 0, none⟩) := VR1_at (by decide) (hV' 0 (hdep 0 (by decide)))
      exact op_val (v := .pointer (some ⟨ar, 0, none⟩)) (by simp only [execOp, show o.op = Op.nilCheck (Operand.tmp 8) from ho, u0]; go_simp) hdst ⟨BR1_upd hB 1 (by decide), VR1_mk (by decide) rfl, fun _ _ _ q => q⟩
    | 2, _ =>
      intro o a' w' Dn hg ho hdst hk hDi hcl hdep hB hV'
      have u0 : a'.eval (.tmp 9) = .pointer (some ⟨ar, 0, none⟩) := VR1_at (by decide) (hV' 1 (hdep 1 (by decide)))
      exact op_val (v := .pointer (some ⟨ar, 0, none⟩)) (by simp only [execOp, show o.op = Op.fieldAddr 68 (Operand.tmp 9) 0 from ho, u0]; go_simp) hdst ⟨BR1_upd hB 2 (by decide), VR1_mk (by decide) rfl, fun _ _ _ q => q⟩
    | 3, _ =>
      intro o a' w' Dn hg ho hdst hk hDi hcl hdep hB hV'
      have u0 : a'.eval (.tmp 10) = .pointer (some ⟨ar, 0, none⟩) := VR1_at (by decide) (hV' 2 (hdep 2 (by decide)))
      have c := har' w' hB.2.1
      exact op_val (v := .pointer (some ⟨v, 0, none⟩)) (by simp only [execOp, show o.op = Op.load 59 (Operand.tmp 10) from ho, u0]; go_simp) hdst ⟨BR1_upd hB 3 (by decide), VR1_mk (by decide) rfl, fun _ _ _ q => q⟩
    | 4, _ =>
      intro o a' w' Dn hg ho hdst hk hDi hcl hdep hB hV'
      have u0 : a'.eval (.tmp 0) = .pointer (some ⟨ar, 0, none⟩) := (hk.slot 0 (by omega)).trans e0
      exact op_val (run_op_move ho u0 w') hdst ⟨BR1_upd hB 4 (by decide), VR1_mk (by decide) rfl, fun _ _ _ q => q⟩
    | 5, _ =>
      intro o a' w' Dn hg ho hdst hk hDi hcl hdep hB hV'
      have u0 : a'.eval (.tmp 12) = .pointer (some ⟨ar, 0, none⟩) := VR1_at (by decide) (hV' 4 (hdep 4 (by decide)))
      exact op_val (v := .pointer (some ⟨ar, 0, none⟩)) (by simp only [execOp, show o.op = Op.nilCheck (Operand.tmp 12) from ho, u0]; go_simp) hdst ⟨BR1_upd hB 5 (by decide), VR1_mk (by decide) rfl, fun _ _ _ q => q⟩
    | 6, _ =>
      intro o a' w' Dn hg ho hdst hk hDi hcl hdep hB hV'
      have u0 : a'.eval (.tmp 13) = .pointer (some ⟨ar, 0, none⟩) := VR1_at (by decide) (hV' 5 (hdep 5 (by decide)))
      exact op_val (v := .pointer (some ⟨ar, 0, none⟩)) (by simp only [execOp, show o.op = Op.fieldAddr 68 (Operand.tmp 13) 0 from ho, u0]; go_simp) hdst ⟨BR1_upd hB 6 (by decide), VR1_mk (by decide) rfl, fun _ _ _ q => q⟩
    | 7, _ =>
      intro o a' w' Dn hg ho hdst hk hDi hcl hdep hB hV'
      have u0 : a'.eval (.tmp 14) = .pointer (some ⟨ar, 0, none⟩) := VR1_at (by decide) (hV' 6 (hdep 6 (by decide)))
      have c := har' w' hB.2.1
      exact op_val (v := .pointer (some ⟨v, 0, none⟩)) (by simp only [execOp, show o.op = Op.load 59 (Operand.tmp 14) from ho, u0]; go_simp) hdst ⟨BR1_upd hB 7 (by decide), VR1_mk (by decide) rfl, fun _ _ _ q => q⟩
    | 8, _ =>
      intro o a' w' Dn hg ho hdst hk hDi hcl hdep hB hV'
      have u0 : a'.eval (.tmp 15) = .pointer (some ⟨v, 0, none⟩) := VR1_at (by decide) (hV' 7 (hdep 7 (by decide)))
      have hA : ArrAt w' p A F := by have := hB.1; unfold arR1 at this; rw [if_neg (by rw [hDi]; decide)] at this; exact this
      have hVw : Vol w' v p D L G ps 0 A F := ⟨hB.2.2, hA, hV.laid.keep (hB.2.1.block _ hV.laid.lt (fun q => q.elim (fun e => by have h9 : 2 < 3 := (by decide); omega) hF.g)), hV.tab.keep (hB.2.1.block _ hV.tab.lt (fun q => q.elim (fun e => by have h9 : 1 < 3 := (by decide); omega) hF.t)), Nat.le_trans hV.room hB.2.1.size⟩
      have hrc := readCopies_ok hVw hF hf 1 hn hD hL hG hnb hw hlost hbad (fun _ => .filled) (fun _ => trivial) (fun _ => makes_filled) he
      refine op_call (f := 29) (args := #[.pointer (some ⟨v, 0, none⟩), .int .i64 (1 : Nat)]) (w1 := w') (by simp only [execOp, show o.op = Op.call { callee := Callee.value (Operand.func 29), args := #[Operand.tmp 15, Operand.const (Value.int IntKind.i64 1)], argTypes := #[59, 3] } from ho]; go_simp; simpa [Act.eval] using u0) hdst hrc ?_
      rintro e w'' ⟨g, rfl, hg1, hrow, hA', hO'⟩
      refine ⟨_, rfl, ⟨?_, hB.2.1.trans (hO'.mono fun _ _ q => .inr q), hB.2.2.keep (hO'.block _ hB.2.2.lt hF.v)⟩, ?_, fun j u hj q => VR1_to (fun e => by rw [e, hDi] at hj; cases hj) q⟩
      · have e : arR1 A (upd Dn 8) = A.readTo A.n := by unfold arR1; rw [if_pos upd_eq]
        rw [e]; exact hA'
      · unfold VR1
        rw [if_pos rfl]
        exact ⟨g, rfl, Nat.le_trans hB.2.1.size hg1, hrow⟩
    | 9, _ =>
      intro o a' w' Dn hg ho hdst hk hDi hcl hdep hB hV'
      have hN20 : A.n ≤ 60 := by omega
      clear hn
      obtain ⟨g, hg1, hg2, hg3⟩ : ∃ g, a'.eval (.tmp 16) = .slice (some ⟨g, 0, none⟩) A.n A.n ∧ w.heap.size ≤ g ∧ w'.rowIs g 125 A.n (fun _ => recV .filled) := by have := hV' 8 (hdep 8 (by decide)); unfold VR1 at this; rw [if_pos rfl] at this; exact this
      have hbk := blanks_any (N := A.n) (fun _ => some .filled) hN20 (w := w') hg3
      rw [svBlank_none _ (fun _ _ => rfl)] at hbk
      refine op_call (f := 34) (args := #[.slice (some ⟨g, 0, none⟩) A.n A.n]) (w1 := w') (by simp only [execOp, show o.op = Op.call { callee := Callee.value (Operand.func 34), args := #[Operand.tmp 16], argTypes := #[93] } from ho]; go_simp; simpa [Act.eval] using hg1) hdst hbk ?_
      rintro e w'' ⟨rfl, hb⟩
      refine ⟨_, rfl, ⟨?_, hB.2.1.trans (Outside.of_all hb _), hB.2.2.keep (hb.block _ hB.2.2.lt)⟩, VR1_mk (by decide) rfl, fun j u hj q => VR1_keep (fun k _ hk => hb.block k hk) q⟩
      have e : arR1 A (upd Dn 9) = arR1 A Dn := by unfold arR1; rw [upd_ne (by decide)]
      rw [e]; exact hB.1.below hb (Nat.le_refl _)
    | 10, _ =>
      intro o a' w' Dn hg ho hdst hk hDi hcl hdep hB hV'
      have u0 : a'.eval (.tmp 11) = .pointer (some ⟨v, 0, none⟩) := VR1_at (by decide) (hV' 3 (hdep 3 (by decide)))
      exact op_val (v := .pointer (some ⟨v, 0, none⟩)) (by simp only [execOp, show o.op = Op.nilCheck (Operand.tmp 11) from ho, u0]; go_simp) hdst ⟨BR1_upd hB 10 (by decide), VR1_mk (by decide) rfl, fun _ _ _ q => q⟩
    | 11, _ =>
      intro o a' w' Dn hg ho hdst hk hDi hcl hdep hB hV'
      have u0 : a'.eval (.tmp 18) = .pointer (some ⟨v, 0, none⟩) := VR1_at (by decide) (hV' 10 (hdep 10 (by decide)))
      exact op_val (v := .pointer (some ⟨v, 5, none⟩)) (by simp only [execOp, show o.op = Op.fieldAddr 91 (Operand.tmp 18) 3 from ho, u0]; go_simp) hdst ⟨BR1_upd hB 11 (by decide), VR1_mk (by decide) rfl, fun _ _ _ q => q⟩
    | 12, _ =>
      intro o a' w' Dn hg ho hdst hk hDi hcl hdep hB hV'
      have u0 : a'.eval (.tmp 19) = .pointer (some ⟨v, 5, none⟩) := VR1_at (by decide) (hV' 11 (hdep 11 (by decide)))
      have u1 : a'.eval (.tmp 17) = .int .u64 0 := VR1_at (by decide) (hV' 9 (hdep 9 (by decide)))
      have hvb : w'.heap[v]? = some (.cells #[.pointer (some ⟨p, 0, none⟩), .int .i64 D, .int .i64 L, .int .i64 G, .pointer (some ⟨ps, 0, none⟩), .int .u64 (0 : Nat)] 91 (0, 0)) := hB.2.2
      have cc : w'.cell? ⟨v, 5, none⟩ = some (.int .u64 (0 : Nat)) := by simp [World.cell?, hvb]
      have ff : w'.frozen? ⟨v, 5, none⟩ = false := by simp [World.frozen?, hvb]
      refine op_skip (w' := w'.setCell ⟨v, 5, none⟩ (.int .u64 0)) (by simp only [execOp, show o.op = Op.store 89 (Operand.tmp 19) (Operand.tmp 17) from ho, u0, u1]; go_simp) ⟨⟨?_, hB.2.1.trans (Outside.setCell _ _ _ (.inl rfl)), ?_⟩, VR1_mk (by decide) rfl, fun j u hj q => VR1_keep (fun k hk1 _ => blk_setCell_other _ _ _ _ (by show k ≠ v; omega)) q⟩
      · have e : arR1 A (upd Dn 12) = arR1 A Dn := by unfold arR1; rw [upd_ne (by decide)]
        rw [e]; exact hB.1.keep fun k hk => blk_setCell_other _ _ _ _ (fun e => hF.v (by have e' : k = v := e; have hn' : (arR1 A Dn).n = A.n := (by unfold arR1; split <;> rfl); rw [hn', e'] at hk; exact hk))
      · exact heap_setCell_same w' v 5 _ _ (.int .u64 0) hvb
    | n + 13, hn => exact absurd hn (by show ¬ n + 13 < 13; omega)
  · rintro a' w' hk' hsame ⟨Dn, hD', hB⟩ hV'
    have e : a' = Act.putFrom a 8 ((List.range 12).map fun i => a'.eval (.tmp (8 + i))) := hk'.out _ (by rw [List.length_map, List.length_range]) (by omega) (fun i hi => by
      rw [List.length_map, List.length_range] at hi
      rw [List.getD_eq_getElem?_getD, List.getElem?_map, List.getElem?_range hi]; rfl)
    rw [e]
    exact hQ w' _ (by rw [List.length_map, List.length_range]) (by have := hB.1; unfold arR1 at this; rw [if_pos (hD' 8 (by decide))] at this; exact this) hB.2.1 hB.2.2
noncomputable def RM5 : Array Oper := ((Tryz.f32.body.bind (rgf · 5))).getD #[]
def shM5 : List (Op × Option Nat × List Nat) := [(Op.move (Operand.tmp 0), some 26, []),
    (Op.nilCheck (Operand.tmp 26), some 27, [0]),
    (Op.fieldAddr 68 (Operand.tmp 27) 0, some 28, [1]),
    (Op.load 59 (Operand.tmp 28), some 29, [2]),
    (Op.load 63 (Operand.tmp 4), some 30, []),
    (Op.makeInterface 63 (Operand.tmp 30), some 31, [4]),
    (Op.move (Operand.tmp 2), some 32, []),
    (Op.load 63 (Operand.tmp 4), some 33, []),
    (Op.makeInterface 63 (Operand.tmp 33), some 34, [7]),
    (Op.call { callee := Callee.value (Operand.func 45), args := #[Operand.tmp 32, Operand.tmp 34], argTypes := #[93, 125] }, some 35, [6, 8]),
    (Op.call { callee := Callee.value (Operand.func 44), args := #[Operand.tmp 29, Operand.const (Value.int IntKind.i64 0), Operand.tmp 31, Operand.tmp 35], argTypes := #[59, 3, 125, 89] }, some 36, [3, 5, 9, 9])]
theorem RM5_shape : RegShape RM5 26 37 shM5 := regShape (by kernel_rfl) (by kernel_rfl)
def vsM5 (ar v g : Nat) (A : Arr) (D1 L1 G1 t1 f1 n1 : Nat) : List Value := [.pointer (some ⟨ar, 0, none⟩), .pointer (some ⟨ar, 0, none⟩), .pointer (some ⟨ar, 0, none⟩), .pointer (some ⟨v, 0, none⟩), .agg (rootA D1 L1 G1 t1 f1 n1), recV (.root D1 L1 G1 t1 f1 n1), .slice (some ⟨g, 0, none⟩) A.n A.n, .agg (rootA D1 L1 G1 t1 f1 n1), recV (.root D1 L1 G1 t1 f1 n1), .int .u64 0, .int .u64 0]
set_option maxRecDepth 100000 in
set_option maxHeartbeats 1000000 in
theorem resume_region5 {ops : Array Oper} {Q : Exit → Act → World → Prop} {a : Act} {w : World} {ar v p D L G ps q g D1 L1 G1 t1 f1 n1 : Nat} {A : Arr} {F : Foot} {cs : Array Value} (hV : Vol w v p D L G ps 0 A F) (hF : Free F p A.n v) (hnar : ¬ F.has p A.n ar) (har : w.heap[ar]? = some (.cells cs 68 (0, 0))) (h0 : cs[0]? = some (.pointer (some ⟨v, 0, none⟩))) (hf : A.fit) (hn : A.n ≤ 20) (hnb : 0 < A.nb) (hw : A.wait < 0) (hok : (Rec.root D1 L1 G1 t1 f1 n1).ok) (hq : w.heap[q]? = some (.cells (rootA D1 L1 G1 t1 f1 n1) 63 (0, 0))) (hnq : ¬ F.has p A.n q) (hrow : w.rowIs g 125 A.n (fun _ => recV (.root D1 L1 G1 t1 f1 n1))) (hng : ¬ F.has p A.n g) (hops : RM5 = ops) (hsz : a.tmps.size = 37)
    (e0 : a.eval (.tmp 0) = .pointer (some ⟨ar, 0, none⟩)) (e2 : a.eval (.tmp 2) = .slice (some ⟨g, 0, none⟩) A.n A.n) (e4 : a.eval (.tmp 4) = .pointer (some ⟨q, 0, none⟩))
    (hQ : ∀ (w' : World), ArrAt w' p A F → Outside (F.has p A.n) w w' → Q .normal (Act.putFrom a 26 [.pointer (some ⟨ar, 0, none⟩), .pointer (some ⟨ar, 0, none⟩), .pointer (some ⟨ar, 0, none⟩), .pointer (some ⟨v, 0, none⟩), .agg (rootA D1 L1 G1 t1 f1 n1), recV (.root D1 L1 G1 t1 f1 n1), .slice (some ⟨g, 0, none⟩) A.n A.n, .agg (rootA D1 L1 G1 t1 f1 n1), recV (.root D1 L1 G1 t1 f1 n1), .int .u64 0, .int .u64 0]) w') : (Code.region 5 ops true).wp Tryz.prog Q a w := by
  subst hops
  have harl : ar < w.heap.size := (Array.getElem?_eq_some_iff.1 har).1
  have hql : q < w.heap.size := (Array.getElem?_eq_some_iff.1 hq).1
  have har' : ∀ w', Outside (F.has p A.n) w w' → w'.cell? ⟨ar, 0, none⟩ = some (.pointer (some ⟨v, 0, none⟩)) := fun w' hO => by
    have := (hO.block ar harl hnar).trans har
    simp [World.cell?, this, h0]
  refine region_factsS (by kernel_rfl) RM5_shape a w (by omega) (fun i u _ => u = (vsM5 ar v g A D1 L1 G1 t1 f1 n1).getD i undef) (fun _ w' => ArrAt w' p A F ∧ Outside (F.has p A.n) w w') ⟨hV.arr.keep fun _ _ => rfl, Outside.drew w⟩ ?_ ?_
  · intro i hi
    match i, hi with
    | 0, _ =>
      intro o a' w' Dn hg ho hdst hk hDi hcl hdep hB hV'
      have u0 : a'.eval (.tmp 0) = .pointer (some ⟨ar, 0, none⟩) := (hk.slot 0 (by omega)).trans e0
      exact op_val (run_op_move ho u0 w') hdst ⟨hB, rfl, fun _ _ _ q => q⟩
    | 1, _ =>
      intro o a' w' Dn hg ho hdst hk hDi hcl hdep hB hV'
      have u0 : a'.eval (.tmp 26) = .pointer (some ⟨ar, 0, none⟩) := hV' 0 (hdep 0 (by decide))
      exact op_val (v := .pointer (some ⟨ar, 0, none⟩)) (by simp only [execOp, show o.op = Op.nilCheck (Operand.tmp 26) from ho, u0]; go_simp) hdst ⟨hB, rfl, fun _ _ _ q => q⟩
    | 2, _ =>
      intro o a' w' Dn hg ho hdst hk hDi hcl hdep hB hV'
      have u0 : a'.eval (.tmp 27) = .pointer (some ⟨ar, 0, none⟩) := hV' 1 (hdep 1 (by decide))
      exact op_val (v := .pointer (some ⟨ar, 0, none⟩)) (by simp only [execOp, show o.op = Op.fieldAddr 68 (Operand.tmp 27) 0 from ho, u0]; go_simp) hdst ⟨hB, rfl, fun _ _ _ q => q⟩
    | 3, _ =>
      intro o a' w' Dn hg ho hdst hk hDi hcl hdep hB hV'
      have u0 : a'.eval (.tmp 28) = .pointer (some ⟨ar, 0, none⟩) := hV' 2 (hdep 2 (by decide))
      have c := har' w' hB.2
      exact op_val (v := .pointer (some ⟨v, 0, none⟩)) (by simp only [execOp, show o.op = Op.load 59 (Operand.tmp 28) from ho, u0]; go_simp) hdst ⟨hB, rfl, fun _ _ _ q => q⟩
    | 4, _ =>
      intro o a' w' Dn hg ho hdst hk hDi hcl hdep hB hV'
      have u0 : a'.eval (.tmp 4) = .pointer (some ⟨q, 0, none⟩) := (hk.slot 4 (by omega)).trans e4
      have hld := root_loadM ((hB.2.block q hql hnq).trans hq)
      exact op_val (v := .agg (rootA D1 L1 G1 t1 f1 n1)) (by simp [execOp, show o.op = Op.load 63 (Operand.tmp 4) from ho, u0, hld]) hdst ⟨hB, rfl, fun _ _ _ q => q⟩
    | 5, _ =>
      intro o a' w' Dn hg ho hdst hk hDi hcl hdep hB hV'
      have u0 : a'.eval (.tmp 30) = .agg (rootA D1 L1 G1 t1 f1 n1) := hV' 4 (hdep 4 (by decide))
      exact op_val (v := recV (.root D1 L1 G1 t1 f1 n1)) (by simp only [execOp, show o.op = Op.makeInterface 63 (Operand.tmp 30) from ho, u0]; simp only [recV]; go_simp) hdst ⟨hB, rfl, fun _ _ _ q => q⟩
    | 6, _ =>
      intro o a' w' Dn hg ho hdst hk hDi hcl hdep hB hV'
      have u0 : a'.eval (.tmp 2) = .slice (some ⟨g, 0, none⟩) A.n A.n := (hk.slot 2 (by omega)).trans e2
      exact op_val (run_op_move ho u0 w') hdst ⟨hB, rfl, fun _ _ _ q => q⟩
    | 7, _ =>
      intro o a' w' Dn hg ho hdst hk hDi hcl hdep hB hV'
      have u0 : a'.eval (.tmp 4) = .pointer (some ⟨q, 0, none⟩) := (hk.slot 4 (by omega)).trans e4
      have hld := root_loadM ((hB.2.block q hql hnq).trans hq)
      exact op_val (v := .agg (rootA D1 L1 G1 t1 f1 n1)) (by simp [execOp, show o.op = Op.load 63 (Operand.tmp 4) from ho, u0, hld]) hdst ⟨hB, rfl, fun _ _ _ q => q⟩
    | 8, _ =>
      intro o a' w' Dn hg ho hdst hk hDi hcl hdep hB hV'
      have u0 : a'.eval (.tmp 33) = .agg (rootA D1 L1 G1 t1 f1 n1) := hV' 7 (hdep 7 (by decide))
      exact op_val (v := recV (.root D1 L1 G1 t1 f1 n1)) (by simp only [execOp, show o.op = Op.makeInterface 63 (Operand.tmp 33) from ho, u0]; simp only [recV]; go_simp) hdst ⟨hB, rfl, fun _ _ _ q => q⟩
    | 9, _ =>
      intro o a' w' Dn hg ho hdst hk hDi hcl hdep hB hV'
      have u0 : a'.eval (.tmp 32) = .slice (some ⟨g, 0, none⟩) A.n A.n := hV' 6 (hdep 6 (by decide))
      have u1 : a'.eval (.tmp 34) = recV (.root D1 L1 G1 t1 f1 n1) := hV' 8 (hdep 8 (by decide))
      refine op_call (f := 45) (args := #[.slice (some ⟨g, 0, none⟩) A.n A.n, recV (.root D1 L1 G1 t1 f1 n1)]) (w1 := w') (by simp only [execOp, show o.op = Op.call { callee := Callee.value (Operand.func 45), args := #[Operand.tmp 32, Operand.tmp 34], argTypes := #[93, 125] } from ho]; go_simp; exact ⟨by simpa [Act.eval] using u0, by simpa [Act.eval] using u1⟩) hdst (unlike_same (by omega) (hrow.of_block (hB.2.block g hrow.lt hng))) ?_
      rintro e w'' ⟨rfl, hw''⟩
      exact ⟨_, rfl, by rw [hw'']; exact hB, rfl, fun _ _ _ q => q⟩
    | 10, _ =>
      intro o a' w' Dn hg ho hdst hk hDi hcl hdep hB hV'
      have u0 : a'.eval (.tmp 29) = .pointer (some ⟨v, 0, none⟩) := hV' 3 (hdep 3 (by decide))
      have u1 : a'.eval (.tmp 31) = recV (.root D1 L1 G1 t1 f1 n1) := hV' 5 (hdep 5 (by decide))
      have u2 : a'.eval (.tmp 35) = .int .u64 0 := hV' 9 (hdep 9 (by decide))
      have hVw := hV.turn hF hB.2 hB.1
      have hwc := writeCopies_ok hVw hF hf 0 0 hnb (by decide) (fun i hi => by rw [mems_zero] at hi; cases hi) hw (fun i hi => by rw [mems_zero] at hi; cases hi) (.root D1 L1 G1 t1 f1 n1) hok (makes_root hok)
      rw [mems_zero, putAt_nil] at hwc
      refine op_call (f := 44) (args := #[.pointer (some ⟨v, 0, none⟩), Value.int IntKind.i64 0, recV (.root D1 L1 G1 t1 f1 n1), .int .u64 0]) (w1 := w') (by simp only [execOp, show o.op = Op.call { callee := Callee.value (Operand.func 44), args := #[Operand.tmp 29, Operand.const (Value.int IntKind.i64 0), Operand.tmp 31, Operand.tmp 35], argTypes := #[59, 3, 125, 89] } from ho]; go_simp; exact ⟨by simpa [Act.eval] using u0, by simpa [Act.eval] using u1, by simpa [Act.eval] using u2⟩) hdst (hwc) ?_
      rintro e w'' ⟨rfl, hA', hO'⟩
      exact ⟨_, rfl, ⟨hA', hB.2.trans hO'⟩, rfl, fun _ _ _ q => q⟩
    | n + 11, hn => exact absurd hn (by show ¬ n + 11 < 11; omega)
  · rintro a' w' hk' hsame ⟨Dn, hD', hB⟩ hV'
    have e : a' = Act.putFrom a 26 [.pointer (some ⟨ar, 0, none⟩), .pointer (some ⟨ar, 0, none⟩), .pointer (some ⟨ar, 0, none⟩), .pointer (some ⟨v, 0, none⟩), .agg (rootA D1 L1 G1 t1 f1 n1), recV (.root D1 L1 G1 t1 f1 n1), .slice (some ⟨g, 0, none⟩) A.n A.n, .agg (rootA D1 L1 G1 t1 f1 n1), recV (.root D1 L1 G1 t1 f1 n1), .int .u64 0, .int .u64 0] := hk'.out _ rfl (by omega) (fun i hi => ?_)
    · rw [e]; exact hQ w' hB.1 hB.2
    · match i, hi with
      | 0, _ => exact hV' 0 (by decide)
      | 1, _ => exact hV' 1 (by decide)
      | 2, _ => exact hV' 2 (by decide)
      | 3, _ => exact hV' 3 (by decide)
      | 4, _ => exact hV' 4 (by decide)
      | 5, _ => exact hV' 5 (by decide)
      | 6, _ => exact hV' 6 (by decide)
      | 7, _ => exact hV' 7 (by decide)
      | 8, _ => exact hV' 8 (by decide)
      | 9, _ => exact hV' 9 (by decide)
      | 10, _ => exact hV' 10 (by decide)
      | n + 11, hn => exact absurd hn (by simp)
end Go.Proofs.YtogdeaaphdlchaaGreatDoor
