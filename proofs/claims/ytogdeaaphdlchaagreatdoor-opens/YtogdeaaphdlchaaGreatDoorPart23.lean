import Derived.Test.YtogdeaaphdlchaaGreatDoorPart22
import Derived.Test.YtogdeaaphdlchaaGreatDoorPart11
import Derived.Test.YtogdeaaphdlchaaGreatDoorPart09
import Derived.Laws.StructEq
import Derived.Laws.BitsAllLaws
import Derived.Test.YtogdeaaphdlchaaGreatDoorPart20
import Derived.Test.YtogdeaaphdlchaaGreatDoorPart17
/-
  loadCatalog: the catalog to which a root leads, where nothing is lost.
-/
namespace Go.Proofs.YtogdeaaphdlchaaGreatDoor
open Go.RowKit Go.Deep Gf

theorem Ints.ltS {K : Nat → Prop} {w : World} {v : Value} {l : List Nat} (h : Ints K w v l) : Ints (fun k => k < w.heap.size) w v l := by
  obtain ⟨ao, c, h1, h2, h3⟩ := h
  refine ⟨ao, c, h1, h2, fun hl => ?_⟩
  obtain ⟨b, off, q1, _, q3, q4⟩ := h3 hl
  exact ⟨b, off, q1, q3, q3, q4⟩
theorem Cat.ltS {K : Nat → Prop} {w : World} {v : Value} {os : List Ob} (h : Cat K w v os) : Cat (fun k => k < w.heap.size) w v os := by
  obtain ⟨ao, c, h1, h2, h3⟩ := h
  refine ⟨ao, c, h1, h2, fun hl => ?_⟩
  obtain ⟨b, off, q1, _, q3, q4⟩ := h3 hl
  refine ⟨b, off, q1, q3, q3, fun i hi => ?_⟩
  obtain ⟨sv, r1, r2, r3, r4⟩ := q4 i hi
  exact ⟨sv, r1, r2, r3, r4.ltS⟩
theorem Cat.weaken {K K' : Nat → Prop} {w : World} {v : Value} {os : List Ob} (h : Cat K w v os) (hk : ∀ k, K k → K' k) : Cat K' w v os := by
  obtain ⟨ao, c, h1, h2, h3⟩ := h
  refine ⟨ao, c, h1, h2, fun hl => ?_⟩
  obtain ⟨b, off, q1, q2, q3, q4⟩ := h3 hl
  refine ⟨b, off, q1, hk _ q2, q3, fun i hi => ?_⟩
  obtain ⟨sv, r1, r2, r3, r4⟩ := q4 i hi
  exact ⟨sv, r1, r2, r3, r4.weaken hk⟩
/-- what Unpack makes of bytes -/
def UnpackOk (D : Nat) (l : List Nat) (os : List Ob) : Prop := ∀ (w : World) (v : Value), Bs w v l → Calls Tryz.prog 58 #[v, .int .i64 ((D * 44 : Nat) : Int)] w fun e w' => ∃ o, e = .returned (.tuple #[o, .bool true]) ∧ Cat (fun k => w.heap.size ≤ k) w' o os ∧ Below w.heap.size w w'
theorem unpackOk_nil (D : Nat) : UnpackOk D [] [] := fun w v hv => by
  obtain ⟨ao, c, rfl, _⟩ := hv
  exact (unpack_nil c _ w).mono fun e w' h => ⟨_, h.1, Cat.nil _ _, h.2⟩
/-- what loadCatalog leaves -/
structure LcPost (w : World) (ar v p D1 L1 G1 t1 : Nat) (off : Bool) (A : Arr) (F : Foot) (P l : List Nat) (os : List Ob) (u o : Value) (w' : World) : Prop where
  arc : ArcAt w' ar v D1 L1 G1 t1 (P.getD 0 0) l.length u o off
  pg : Ints (fun k => w.heap.size ≤ k) w' u P
  cat : Cat (fun k => w.heap.size ≤ k) w' o os
  arr : ∃ rs, ArrAt w' p (A.rd rs) F
  out : Outside (fun k => k = ar ∨ F.has p A.n k) w w'
set_option maxRecDepth 100000 in
set_option maxHeartbeats 4000000 in
theorem loadCatalog_ok {w : World} {ar v p D L G ps D' L' G' t f nn D1 L1 G1 t1 : Nat} {pg ob : Value} {off : Bool} {A : Arr} {F : Foot} (hA : ArcAt w ar v D' L' G' t f nn pg ob off) (hV : Vol w v p D L G ps 0 A F) (hF : Free F p A.n v) (har : ¬ F.has p A.n ar) (hf : A.fit) (hn : A.n = D + L + G) (hD1 : 1 ≤ D) (hD : D ≤ 12) (hL4 : L ≤ 4) (hG : G ≤ 4) (h16 : D + L + G ≤ 16)
    (hw : A.wait ≠ 0) (hlost : ∀ i, A.lost i = false) (P l : List Nat) (hlx : ∀ x ∈ l, x < 256) (hll : l.length ≤ 1000000) (hPl : P.length = pgs D l.length) (hPn : ∀ x ∈ P, x < A.nb) (hPb : P.length ≤ A.nb) (hPm : P.length ≤ 1000000) (hbad : ∀ x ∈ P, ∀ i, A.bad i x = false)
    (hblk : ∀ k, k < P.length → ∀ i, i < A.n → A.blk i (P.getD k 0) = (Rec.shard ((stripeL D L G (pageB D P l k)).getD i [])).blk) (os : List Ob) (hU : UnpackOk D l os) (htk : (tk A.nb (P ++ allSt os)).2 = true) (hvar : v ≠ ar) :
    Calls Tryz.prog 43 #[.pointer (some ⟨ar, 0, none⟩), .agg (rootA D1 L1 G1 t1 (P.getD 0 0) l.length)] w fun e w' => e = .returned .nilIface ∧ ∃ u o, LcPost w ar v p D1 L1 G1 t1 off A F P l os u o w' := by
  have hFl : ∀ k, F.has p A.n k → k < w.heap.size := fun k hk => hV.arr.has_lt hk
  have harl := hA.lt
  obtain ⟨n1, hn1⟩ : ∃ n1, l.length = n1 := ⟨_, rfl⟩
  obtain ⟨f1, hf1⟩ : ∃ f1, P.getD 0 0 = f1 := ⟨_, rfl⟩
  have hbx : (w.alloc (.cells (rootA D1 L1 G1 t1 f1 n1) 63)).heap[w.heap.size]? = some (.cells (rootA D1 L1 G1 t1 f1 n1) 63 (0, 0)) := blk_alloc_new _ _
  have hb1 : Below w.heap.size w (w.alloc (.cells (rootA D1 L1 G1 t1 f1 n1) 63)) := (Below.refl _ w).alloc (Nat.le_refl _) _
  have hz1 : (w.alloc (.cells (rootA D1 L1 G1 t1 f1 n1) 63)).heap.size = w.heap.size + 1 := by simp
  obtain ⟨w1, hw1⟩ : ∃ w1, w.alloc (.cells (rootA D1 L1 G1 t1 f1 n1) 63) = w1 := ⟨_, rfl⟩
  rw [hw1] at hbx hb1 hz1
  have hA1 := hA.keep (hb1.block _ hA.lt)
  have hV1 := hV.below hb1 (Nat.le_refl _)
  have hrp := readPages_ok (D1 := D1) (L1 := L1) (G1 := G1) (t1 := t1) hA1 hV1 hF har hf hn hD1 hD hL4 hG h16 hw hlost P l hlx hll hPl hPn hPb hPm hbad hblk
  rw [hf1, hn1] at hrp
  rw [hn1, hf1]
  have H1 := hide (And.intro hA1 (And.intro hV1 (And.intro hbx (And.intro hb1 (And.intro hz1 hrp)))))
  have hw1' : w.alloc (.cells #[.int .i64 D1, .int .i64 L1, .int .i64 G1, .int .u64 t1, .int .i64 f1, .int .i64 n1] 63) = w1 := hw1
  have HV := hide (And.intro hA hV)
  have HN := hide (And.intro hn1 (And.intro hPl hf1))
  clear hA hV hbx hb1 hA1 hV1 hz1 hw1 hrp hn1 hPl hf1
  show Calls Tryz.prog 43 #[.pointer (some ⟨ar, 0, none⟩), .agg #[.int .i64 D1, .int .i64 L1, .int .i64 G1, .int .u64 t1, .int .i64 f1, .int .i64 n1]] w _
  go_enter Tryz.func43, Tryz.ntmps43
  go_wp2_with (show wpList _ _ _ ({ dst := some 14, op := _, type := _, pos := _, after := _, guard := _ } :: _) _ _; refine rt_load (D := D1) (L := L1) (G := G1) (t := t1) (f := f1) (n := n1) (b := w.heap.size) rfl (.tmp 3) rfl rfl (by rfl) (by exact H1.out.2.2.1) ?_)
  refine H1.out.2.2.2.2.2.mono ?_
  rintro e w2 ⟨up, uq, rfl, hpost⟩
  obtain ⟨hA1, hV1, hbx, hb1, hz1, hx⟩ := H1.out
  clear hx
  obtain ⟨rs, harr⟩ := hpost.arr
  have hA2 := hA1.keep (hpost.out.block _ hA1.lt har)
  have hV2 : Vol w2 v p D L G ps 0 (A.rd rs) F := hV1.turn hF hpost.out harr
  have hbx2 := (hpost.out.block _ (by omega) (fun q => by have := hFl _ q; omega)).trans hbx
  obtain ⟨d0, _⟩ := hA2.cells
  have hss := stripeSize_any hV2.vol (by omega)
  have hup := hU w2 up hpost.pk
  obtain ⟨D44, hD44⟩ : ∃ D44, D * 44 = D44 := ⟨_, rfl⟩
  rw [hD44] at hss hup
  have hz2 := hpost.out.size
  have hO2 : Outside (F.has p A.n) w w2 := (Outside.of_all hb1 _).trans hpost.out
  obtain ⟨uao, uc, hupe, _⟩ := hpost.pk
  obtain ⟨qao, qc, huqe, _⟩ := id hpost.pg
  rw [HN.out.1] at hupe
  obtain ⟨KP, hKP⟩ : ∃ KP, P.length = KP := ⟨_, rfl⟩
  rw [hKP] at huqe
  have HKP := hide hKP
  have H2 := hide (And.intro hA2 (And.intro hV2 (And.intro hbx2 (And.intro hss (And.intro hup (And.intro hpost.pg (And.intro hO2 harr)))))))
  clear hA1 hV1 hbx hb1 hpost hA2 hV2 hbx2 hss hup hO2 harr hKP
  subst hupe
  subst huqe
  go_wp2_with fail
  refine H2.out.2.2.2.1.mono ?_
  rintro e w3 ⟨rfl, hww⟩
  obtain rfl : w2 = w3 := hww.symm
  clear hww
  go_wp2_with fail
  refine H2.out.2.2.2.2.1.mono ?_
  rintro e w3 ⟨o, rfl, hcat, hb3⟩
  obtain ⟨hA2, hV2, hbx2, hx1, hx2, hpg2, hO2, harr⟩ := H2.out
  clear hx1 hx2
  obtain ⟨oao, oc, hoe, _⟩ := id hcat
  have hA3 := hA2.keep (hb3.block _ hA2.lt)
  have hbx3 := (hb3.block _ (Array.getElem?_eq_some_iff.1 hbx2).1).trans hbx2
  have hO3 : Outside (F.has p A.n) w w3 := hO2.trans (Outside.of_all hb3 _)
  have ht6 := hA3.there
  have ha8 := arc_root (D := D1) (L := L1) (G := G1) (t := t1) (f := f1) (n := n1) hA3
  have hO38 : Outside (fun k => k = ar) w3 (w3.setCells ar 1 (rootA D1 L1 G1 t1 f1 n1).toList) := Outside.setCells _ ar 1 _ rfl
  obtain ⟨w8, hw8⟩ : ∃ w8, w3.setCells ar 1 (rootA D1 L1 G1 t1 f1 n1).toList = w8 := ⟨_, rfl⟩
  rw [hw8] at ha8 hO38
  obtain ⟨c7, f7, c8, f8⟩ := ha8.tail
  have hz3 := hb3.size
  have H3 := hide (And.intro ha8 (And.intro hO38 (And.intro ht6 (And.intro hbx3 (And.intro hw8 (And.intro hO3 (And.intro hcat (And.intro hpg2 (And.intro hV2 (And.intro harr hb3))))))))))
  clear hA2 hV2 hbx2 hpg2 hO2 harr hA3 hbx3 hO3 ht6 ha8 hO38 hw8 hcat hb3 d0
  subst hoe
  go_wp2_with (first | (show wpList _ _ _ ({ dst := some 38, op := _, type := _, pos := _, after := _, guard := _ } :: _) _ _; refine rt_load (D := D1) (L := L1) (G := G1) (t := t1) (f := f1) (n := n1) (b := w.heap.size) rfl (.tmp 3) rfl rfl (by rfl) (by exact H3.out.2.2.2.1) ?_) | (show wpList _ _ _ ({ dst := none, op := Op.store 63 (.tmp 42) (.tmp 38), type := _, pos := _, after := _, guard := _ } :: _) _ _; refine wpList_store_mid rfl 63 (.tmp 42) (.tmp 38) rfl ar 1 (rootA D1 L1 G1 t1 f1 n1) (by rfl) (by rfl) (by exact H3.out.2.2.1) (rootA_info _ _ _ _ _ _) (rootA_one _ _ _ _ _ _) ?_; rw [H3.out.2.2.2.2.1]))
  obtain ⟨ha8, hO38, hx1, hx2, hx3, hO3, hcat, hpg2, hV2, harr, hb3⟩ := H3.out
  clear hx1 hx2 hx3
  have hA9 := ha8.late (.slice qao KP qc) (.slice oao os.length oc)
  have hO39 : Outside (fun k => k = ar) w3 ((w8.setCell ⟨ar, 7, none⟩ (.slice qao KP qc)).setCell ⟨ar, 8, none⟩ (.slice oao os.length oc)) := (hO38.trans (Outside.setCell _ _ _ rfl)).trans (Outside.setCell _ _ _ rfl)
  obtain ⟨w9, hw9⟩ : ∃ w9, (w8.setCell ⟨ar, 7, none⟩ (.slice qao KP qc)).setCell ⟨ar, 8, none⟩ (.slice oao os.length oc) = w9 := ⟨_, rfl⟩
  rw [hw9] at hA9 hO39 ⊢
  have hV9 : VolAt w9 v p D L G ps 0 := (hV2.vol.keep (hb3.block _ hV2.vol.lt)).keep (hO39.block _ (Nat.lt_of_lt_of_le hV2.vol.lt hz3) hvar)
  have harr9 : ArrAt w9 p (A.rd rs) F := (harr.below hb3 (Nat.le_refl _)).keep fun k hk => hO39.block k (by have := hFl k hk; omega) (fun e => har (e ▸ hk))
  have hpg9 : Ints (fun k => w.heap.size ≤ k) w9 (.slice qao KP qc) P := (hpg2.weaken fun k hk => by omega).keep ⟨Nat.le_trans hz3 hO39.size, fun k hk hk2 => (hO39.block k (by omega) (fun e => by omega)).trans (hb3.block k hk)⟩
  have hcat9 : Cat (fun k => w.heap.size ≤ k) w9 (.slice oao os.length oc) os := (hcat.weaken fun k hk => by omega).keep ⟨hO39.size, fun k hk hk2 => hO39.block k hk (fun e => by omega)⟩
  have hO9 : Outside (fun k => k = ar ∨ F.has p A.n k) w w9 := (hO3.mono fun _ _ q => .inr q).trans (hO39.mono fun _ _ q => .inl q)
  have htkn := taken_any hA9 hV9 harr9 ⟨hf.n, hf.nb, hf.len, hf.byt⟩ (by show 0 < A.n; omega) P os hpg9.ltS hcat9.ltS
  rw [show (A.rd rs).nb = A.nb from rfl, htk] at htkn
  have H9 := hide (And.intro htkn (And.intro hA9 (And.intro harr9 (And.intro hpg9 (And.intro hcat9 hO9)))))
  clear ha8 hO38 hO3 hcat hpg2 hV2 harr hb3 hA9 hO39 hw9 hV9 harr9 hpg9 hcat9 hO9 htkn c7 f7 c8 f8
  refine H9.out.1.mono ?_
  rintro e w10 ⟨gt, rfl, hgt, hrow, hb10⟩
  have H10 := hide hb10
  clear hb10 hrow hgt
  obtain ⟨NB, hNB⟩ : ∃ NB, A.nb = NB := ⟨_, rfl⟩
  rw [hNB]
  go_wp2
  go_ret
  obtain ⟨hx, hA9, harr9, hpg9, hcat9, hO9⟩ := H9.out
  have hb10 := H10.out
  refine ⟨rfl, _, _, ⟨by rw [HN.out.1, HN.out.2.2]; exact hA9.keep (hb10.block _ hA9.lt), hpg9.keep (KpS.of_below hb10), hcat9.keep (KpS.of_below hb10), ⟨_, harr9.below hb10 (Nat.le_refl _)⟩, hO9.trans (Outside.of_all hb10 _)⟩⟩
end Go.Proofs.YtogdeaaphdlchaaGreatDoor
/-
  Structs held against one another: the params, the root; records as interfaces.
-/
namespace Go.Proofs.YtogdeaaphdlchaaGreatDoor
open Go.RowKit Go.Deep Gf

theorem eqIn_iface (d : Nat) (tx : TypeId) (vx vy : Value) (i : TypeInfo) (hi : Tryz.prog.info? tx = some i) (hc : i.comparable = true) (w : World) : (Op.equalIn (d + 1) 125 (.iface tx vx) (.iface tx vy)).run Tryz.prog w = (Op.equalIn d tx vx vy).run Tryz.prog w := by
  simp [Op.equalIn, run_underlying Tryz.underlying125, typeInfo, hi, hc]
theorem eqParams (D L G D' L' G' : Int) (w : World) : (Op.equalIn 10000 23 (.agg #[.int .i64 D, .int .i64 L, .int .i64 G]) (.agg #[.int .i64 D', .int .i64 L', .int .i64 G'])).run Tryz.prog w = .ok (decide (D = D' ∧ L = L' ∧ G = G')) w := by
  by_cases h1 : D = D'
  · by_cases h2 : L = L'
    · by_cases h3 : G = G'
      · subst h1 h2 h3
        go_simp
      · have : (G == G') = false := by simp [h3]
        subst h1 h2
        go_simp
    · have : (L == L') = false := by simp [h2]
      subst h1
      go_simp
  · have : (D == D') = false := by simp [h1]
    go_simp
theorem eqRoot_same (D L G t f n : Nat) (w : World) : (Op.equalIn 9999 63 (.agg (rootA D L G t f n)) (.agg (rootA D L G t f n))).run Tryz.prog w = .ok true w := by
  unfold rootA
  go_simp
theorem infoRoot : ∃ i : TypeInfo, Tryz.prog.info? 63 = some i ∧ i.comparable = true := by
  have : (Tryz.prog.info? 63).map (fun i => i.comparable) = some true := by kernel_rfl
  rw [Option.map_eq_some_iff] at this
  exact this
theorem eqRec_same (D L G t f n : Nat) (w : World) : (Op.equalIn 10000 125 (recV (.root D L G t f n)) (recV (.root D L G t f n))).run Tryz.prog w = .ok true w := by
  obtain ⟨i, h1, h2⟩ := infoRoot
  exact (eqIn_iface 9999 63 _ _ i h1 h2 w).trans (eqRoot_same D L G t f n w)
end Go.Proofs.YtogdeaaphdlchaaGreatDoor
/-
  lastRoot and blanks: what the first blocks tell.
-/
namespace Go.Proofs.YtogdeaaphdlchaaGreatDoor
open Go.RowKit Go.Deep

theorem pow64 {k : Nat} (h : k < 64) : 2 ^ k < 18446744073709551616 := Nat.lt_of_lt_of_le (Nat.pow_lt_pow_right (by decide) h) (Nat.le_refl _)
set_option maxRecDepth 100000 in
set_option maxHeartbeats 1000000 in
theorem with_any (x k : Nat) (hx : x < 18446744073709551616) (hk : k ≤ 60) (w : World) : Calls Tryz.prog 49 #[.int .u64 x, .int .i64 k] w fun e w' => e = .returned (.int .u64 ((x ||| 2 ^ k : Nat) : Int)) ∧ w' = w := by
  have key : bits .or .u64 (x : Int) (IntKind.u64.wrap (2 ^ k)) = ((x ||| 2 ^ k : Nat) : Int) := by
    have h1 := pow64 (k := k) (by omega)
    have e : ((2 : Int) ^ k) = ((2 ^ k : Nat) : Int) := by rw [Int.natCast_pow]; rfl
    have e2 : IntKind.u64.wrap (2 ^ k) = ((2 ^ k : Nat) : Int) := by
      rw [e, IntKind.wrap_u64]
      generalize 2 ^ k = q at *
      omega
    rw [e2]
    exact bits_or_u64_nat x (2 ^ k) hx h1
  go_enter Tryz.func49, Tryz.ntmps49
  go_wp2
  go_ret
  exact ⟨rfl, rfl⟩
/-- a root's numbers -/
structure Rt where
  D : Nat
  L : Nat
  G : Nat
  t : Nat
  f : Nat
  n : Nat
def rtA (x : Rt) : Array Value := rootA x.D x.L x.G x.t x.f x.n
def recO : Option Rec → Value
  | none => .nilIface
  | some r => recV r
def svStep (x : Rt) : Option Rec → Rt
  | some (.root D L G t f n) => if x.t < t then ⟨D, L, G, t, f, n⟩ else x
  | _ => x
def svLast (R : Nat → Option Rec) : Nat → Rt
  | 0 => ⟨0, 0, 0, 0, 0, 0⟩
  | k + 1 => svStep (svLast R k) (R k)
def svOr (x k : Nat) : Option Rec → Nat
  | some .blank => x ||| 2 ^ k
  | _ => x
def svBlank (R : Nat → Option Rec) : Nat → Nat
  | 0 => 0
  | k + 1 => svOr (svBlank R k) k (R k)
theorem svBlank_lt (R : Nat → Option Rec) : ∀ k, k ≤ 60 → svBlank R k < 2 ^ k
  | 0, _ => by simp [svBlank]
  | k + 1, h => by
    have ih := svBlank_lt R k (by omega)
    have h2 : 2 ^ k < 2 ^ (k + 1) := Nat.pow_lt_pow_right (by decide) (by omega)
    show svOr (svBlank R k) k (R k) < 2 ^ (k + 1)
    unfold svOr
    split
    · exact Nat.or_lt_two_pow (by omega) h2
    · omega
theorem rt_store {w : World} {ops : Array Oper} {rest : List Oper} {o : Oper} {a : Act} {Q : Exit → Act → World → Prop} (hg : o.guard = none) (x y : Operand) (ho : o.op = .store 63 x y) {b D L G t f n : Nat} {cs : Array Value}
    (hx : a.eval x = .pointer (some ⟨b, 0, none⟩)) (hy : a.eval y = .agg (rootA D L G t f n)) (hb : w.heap[b]? = some (.cells cs 63 (0, 0))) (hc : cs.size = 6) (h : wpList Tryz.prog ops Q rest (a.put o.dst undef) (w.setRow b (rootA D L G t f n))) : wpList Tryz.prog ops Q (o :: rest) a w := by
  refine wpList_plain hg fun K hK => ?_
  unfold Oper.wp
  simp [execOp, ho, hx, hy, root_store hb hc, Result.andThen]
  exact hK _ _ h
theorem ta_root (v : Value) (w : World) : (Instr.typeAssert (.iface 63 v) 125 63 true).run Tryz.prog w = .ok (.tuple #[v, .bool true]) w := by
  simp [Instr.typeAssert, run_underlying Tryz.underlying63]
theorem ta_root_not (t : TypeId) (h : t ≠ 63) (v : Value) (w : World) : (Instr.typeAssert (.iface t v) 125 63 true).run Tryz.prog w = .ok (.tuple #[.agg (rootA 0 0 0 0 0 0), .bool false]) w := by
  simp [Instr.typeAssert, run_underlying Tryz.underlying63, h]
  rfl
theorem ta_root_nil (w : World) : (Instr.typeAssert .nilIface 125 63 true).run Tryz.prog w = .ok (.tuple #[.agg (rootA 0 0 0 0 0 0), .bool false]) w := by
  simp [Instr.typeAssert, run_underlying Tryz.underlying63]
  rfl
theorem blank_zero (w : World) : (zeroValue 138).run Tryz.prog w = .ok (.agg #[]) w := by
  obtain ⟨i0, hi0, hz0⟩ : ∃ i0, Tryz.prog.info? 138 = some i0 ∧ i0.zero = some (.agg #[]) := by
    have : (Tryz.prog.info? 138).map (fun i => i.zero) = some (some (.agg #[])) := by kernel_rfl
    rw [Option.map_eq_some_iff] at this
    exact this
  simp [zeroValue, typeInfo, Sem.run_bind, hi0, hz0]
theorem ta_blank (v : Value) (w : World) : (Instr.typeAssert (.iface 138 v) 125 138 true).run Tryz.prog w = .ok (.tuple #[v, .bool true]) w := by
  simp [Instr.typeAssert, run_underlying Tryz.underlying138]
theorem ta_blank_not (t : TypeId) (h : t ≠ 138) (v : Value) (w : World) : (Instr.typeAssert (.iface t v) 125 138 true).run Tryz.prog w = .ok (.tuple #[.agg #[], .bool false]) w := by
  simp [Instr.typeAssert, run_underlying Tryz.underlying138, h]
theorem ta_blank_nil (w : World) : (Instr.typeAssert .nilIface 125 138 true).run Tryz.prog w = .ok (.tuple #[.agg #[], .bool false]) w := by
  simp [Instr.typeAssert, run_underlying Tryz.underlying138]
/-- a variable that is a root -/
def rootVar (w : World) (D L G t f n : Nat) : World := (w.alloc (.cells (rootA 0 0 0 0 0 0) 63)).setRow w.heap.size (rootA D L G t f n)
theorem rootVar_at (w : World) (D L G t f n : Nat) : (rootVar w D L G t f n).heap[w.heap.size]? = some (.cells (rootA D L G t f n) 63 (0, 0)) := setRow_heap _ _ _ _ _ _ (blk_alloc_new w (.cells (rootA 0 0 0 0 0 0) 63))
theorem rootVar_below (w : World) (D L G t f n : Nat) : Below w.heap.size w (rootVar w D L G t f n) := ((Below.refl _ w).alloc (Nat.le_refl _) _).trans ⟨rfl, rfl, rfl, by unfold rootVar; rw [size_setRow]; exact Nat.le_refl _, fun k hk => (grown_setRow' _ _ _).block k (by simp; omega) (fun q => by have := Option.some.inj q; omega)⟩
theorem rootVar_size (w : World) (D L G t f n : Nat) : (rootVar w D L G t f n).heap.size = w.heap.size + 1 := by unfold rootVar; rw [size_setRow]; simp
/-- .. as the walk meets it -/
theorem rt_new {w : World} {ops : Array Oper} {rest : List Oper} {o : Oper} {a : Act} {Q : Exit → Act → World → Prop} (hg : o.guard = none) (x y : Operand) (ho : o.op = .store 63 x y) {D L G t f n : Nat}
    (hx : a.eval x = .pointer (some ⟨w.heap.size, 0, none⟩)) (hy : a.eval y = .agg (rootA D L G t f n)) (h : wpList Tryz.prog ops Q rest (a.put o.dst undef) (rootVar w D L G t f n)) : wpList Tryz.prog ops Q (o :: rest) a (w.alloc (.cells (rootA 0 0 0 0 0 0) 63)) :=
  rt_store hg x y ho hx hy (blk_alloc_new _ _) rfl h
def BkR (w : World) (R : Nat → Option Rec) (N : Nat) (s i : Value) (wr : World) : Prop := ∃ k : Nat, k ≤ N ∧ i = .int .i64 k ∧ s = .int .u64 (svBlank R k : Nat) ∧ Below w.heap.size w wr
set_option maxRecDepth 100000 in
set_option maxHeartbeats 2000000 in
theorem blanks_any {w : World} {g N : Nat} (R : Nat → Option Rec) (hN : N ≤ 60) (hrow : w.rowIs g 125 N (fun i => recO (R i))) :
    Calls Tryz.prog 34 #[.slice (some ⟨g, 0, none⟩) N N] w fun e w' => e = .returned (.int .u64 (svBlank R N : Nat)) ∧ Below w.heap.size w w' := by
  have hgl := hrow.lt
  have hz := blank_zero
  go_enter Tryz.func34, Tryz.ntmps34
  go_wp2_with fail
  go_loopw [2, 9] (fun s i wr => BkR w R N s i wr) (fun _ i _ => N - (intOf i).toNat)
  case atStart => exact ⟨0, Nat.zero_le _, rfl, rfl, Below.refl _ _⟩
  case round =>
    obtain ⟨k, hk, rfl, rfl, hbw⟩ := hrel
    by_cases hlt : k < N
    · have hrk : wr.rowIs g 125 N (fun i => recO (R i)) := hrow.of_block (hbw.block g hgl)
      have c := hrk.cell (i := k) hlt
      have hs : svBlank R (k + 1) = svOr (svBlank R k) k (R k) := rfl
      have hbl := svBlank_lt R k (by omega)
      have hb64 : svBlank R k < 18446744073709551616 := Nat.lt_trans hbl (pow64 (by omega))
      have hwz := hbw.size
      cases hRk : R k with
      | none =>
        have t2 := ta_blank_nil
        rw [hRk] at c hs
        simp only [recO] at c
        have H := hide (And.intro hbw hs)
        clear hbw hrk hs hbl hrow
        go_wp2
        refine ⟨⟨k + 1, by omega, by go_num, by rw [H.out.2]; rfl, H.out.1.alloc hwz _⟩, by simp [intOf]; omega⟩
      | some r =>
        cases r with
        | shard l =>
          have t2 := ta_blank_not 212 (by decide)
          rw [hRk] at c hs
          simp only [recO, recV] at c
          have H := hide (And.intro hbw hs)
          clear hbw hrk hs hbl hrow
          go_wp2
          refine ⟨⟨k + 1, by omega, by go_num, by rw [H.out.2]; rfl, H.out.1.alloc hwz _⟩, by simp [intOf]; omega⟩
        | filled =>
          have t2 := ta_blank_not 141 (by decide)
          rw [hRk] at c hs
          simp only [recO, recV] at c
          have H := hide (And.intro hbw hs)
          clear hbw hrk hs hbl hrow
          go_wp2
          refine ⟨⟨k + 1, by omega, by go_num, by rw [H.out.2]; rfl, H.out.1.alloc hwz _⟩, by simp [intOf]; omega⟩
        | root D L G t f n =>
          have t2 := ta_blank_not 63 (by decide)
          rw [hRk] at c hs
          simp only [recO, recV] at c
          have H := hide (And.intro hbw hs)
          clear hbw hrk hs hbl hrow
          go_wp2
          refine ⟨⟨k + 1, by omega, by go_num, by rw [H.out.2]; rfl, H.out.1.alloc hwz _⟩, by simp [intOf]; omega⟩
        | blank =>
          have t2 := ta_blank
          rw [hRk] at c hs
          simp only [recO, recV] at c
          have H := hide (And.intro hbw hs)
          clear hbw hrk hs hbl hrow
          go_wp2_with fail
          refine (with_any _ k hb64 (by omega) _).mono ?_
          rintro e w2 ⟨rfl, rfl⟩
          go_wp2
          refine ⟨⟨k + 1, by omega, by go_num, by rw [H.out.2]; rfl, H.out.1.alloc hwz _⟩, by simp [intOf]; omega⟩
    · have hkN : k = N := by omega
      subst hkN
      have H := hide hbw
      clear hbw hrow
      go_wp2
      go_ret
      exact ⟨rfl, H.out⟩
def LrR (w : World) (R : Nat → Option Rec) (N : Nat) (i : Value) (wr : World) : Prop := ∃ k : Nat, k ≤ N ∧ i = .int .i64 k ∧ wr.heap[w.heap.size]? = some (.cells (rtA (svLast R k)) 63 (0, 0)) ∧ Below w.heap.size w wr
set_option maxRecDepth 100000 in
set_option maxHeartbeats 400000 in
theorem lastRoot_any {w : World} {g N : Nat} (R : Nat → Option Rec) (hN : N ≤ 60) (hrow : w.rowIs g 125 N (fun i => recO (R i))) :
    Calls Tryz.prog 30 #[.slice (some ⟨g, 0, none⟩) N N] w fun e w' => e = .returned (.agg (rtA (svLast R N))) ∧ Below w.heap.size w w' := by
  have hgl := hrow.lt
  have h0 : (w.alloc (.cells (rootA 0 0 0 0 0 0) 63)).heap[w.heap.size]? = some (.cells (rtA (svLast R 0)) 63 (0, 0)) := blk_alloc_new _ _
  have hb0 : Below w.heap.size w (w.alloc (.cells (rootA 0 0 0 0 0 0) 63)) := (Below.refl _ w).alloc (Nat.le_refl _) _
  have hz := root_zero
  go_enter Tryz.func30, Tryz.ntmps30
  go_wp2_with fail
  go_loopw [9] (fun i wr => LrR w R N i wr) (fun i _ => N - (intOf i).toNat)
  case atStart => exact ⟨0, Nat.zero_le _, rfl, h0, hb0⟩
  case round =>
    clear h0 hb0
    obtain ⟨k, hk, rfl, hB, hbw⟩ := hrel
    by_cases hlt : k < N
    · have hrk : wr.rowIs g 125 N (fun i => recO (R i)) := hrow.of_block (hbw.block g hgl)
      have c := hrk.cell (i := k) hlt
      have hl : svLast R (k + 1) = svStep (svLast R k) (R k) := rfl
      have hwz := hbw.size
      have hlt0 : w.heap.size < wr.heap.size := (Array.getElem?_eq_some_iff.1 hB).1
      have hB0 : (rootVar wr 0 0 0 0 0 0).heap[w.heap.size]? = some (.cells (rtA (svLast R k)) 63 (0, 0)) := ((rootVar_below wr 0 0 0 0 0 0).block _ hlt0).trans hB
      have hbw0 : Below w.heap.size w (rootVar wr 0 0 0 0 0 0) := hbw.trans ((rootVar_below wr 0 0 0 0 0 0).mono hwz)
      cases hRk : R k with
      | none =>
        have t1 := ta_root_nil
        rw [hRk] at c hl
        simp only [recO] at c
        have H := hide (And.intro hB0 (And.intro hbw0 hl))
        clear hB hbw hrk hl hrow hB0 hbw0
        go_wp2_with (show wpList _ _ _ ({ dst := none, op := Op.store 63 (.tmp 5) (.tmp 16), type := _, pos := _, after := _, guard := _ } :: _) _ _; refine rt_new (w := wr) (D := 0) (L := 0) (G := 0) (t := 0) (f := 0) (n := 0) rfl (.tmp 5) (.tmp 16) rfl (by rfl) (by rfl) ?_)
        refine ⟨⟨k + 1, by omega, by go_num, by rw [H.out.2.2]; exact H.out.1, H.out.2.1⟩, by simp [intOf]; omega⟩
      | some r =>
        cases r with
        | shard l =>
          have t1 := ta_root_not 212 (by decide)
          rw [hRk] at c hl
          simp only [recO, recV] at c
          have H := hide (And.intro hB0 (And.intro hbw0 hl))
          clear hB hbw hrk hl hrow hB0 hbw0
          go_wp2_with (show wpList _ _ _ ({ dst := none, op := Op.store 63 (.tmp 5) (.tmp 16), type := _, pos := _, after := _, guard := _ } :: _) _ _; refine rt_new (w := wr) (D := 0) (L := 0) (G := 0) (t := 0) (f := 0) (n := 0) rfl (.tmp 5) (.tmp 16) rfl (by rfl) (by rfl) ?_)
          refine ⟨⟨k + 1, by omega, by go_num, by rw [H.out.2.2]; exact H.out.1, H.out.2.1⟩, by simp [intOf]; omega⟩
        | blank =>
          have t1 := ta_root_not 138 (by decide)
          rw [hRk] at c hl
          simp only [recO, recV] at c
          have H := hide (And.intro hB0 (And.intro hbw0 hl))
          clear hB hbw hrk hl hrow hB0 hbw0
          go_wp2_with (show wpList _ _ _ ({ dst := none, op := Op.store 63 (.tmp 5) (.tmp 16), type := _, pos := _, after := _, guard := _ } :: _) _ _; refine rt_new (w := wr) (D := 0) (L := 0) (G := 0) (t := 0) (f := 0) (n := 0) rfl (.tmp 5) (.tmp 16) rfl (by rfl) (by rfl) ?_)
          refine ⟨⟨k + 1, by omega, by go_num, by rw [H.out.2.2]; exact H.out.1, H.out.2.1⟩, by simp [intOf]; omega⟩
        | filled =>
          have t1 := ta_root_not 141 (by decide)
          rw [hRk] at c hl
          simp only [recO, recV] at c
          have H := hide (And.intro hB0 (And.intro hbw0 hl))
          clear hB hbw hrk hl hrow hB0 hbw0
          go_wp2_with (show wpList _ _ _ ({ dst := none, op := Op.store 63 (.tmp 5) (.tmp 16), type := _, pos := _, after := _, guard := _ } :: _) _ _; refine rt_new (w := wr) (D := 0) (L := 0) (G := 0) (t := 0) (f := 0) (n := 0) rfl (.tmp 5) (.tmp 16) rfl (by rfl) (by rfl) ?_)
          refine ⟨⟨k + 1, by omega, by go_num, by rw [H.out.2.2]; exact H.out.1, H.out.2.1⟩, by simp [intOf]; omega⟩
        | root D L G t f n =>
          have t1 := ta_root
          rw [hRk] at c hl
          simp only [recO, recV] at c
          have hr6 := rootVar_at wr D L G t f n
          have ho6 : (rootVar wr D L G t f n).heap[w.heap.size]? = some (.cells (rtA (svLast R k)) 63 (0, 0)) := ((rootVar_below wr D L G t f n).block _ hlt0).trans hB
          have hb6 : Below w.heap.size w (rootVar wr D L G t f n) := hbw.trans ((rootVar_below wr D L G t f n).mono hwz)
          obtain ⟨w6, hw6⟩ : ∃ w6, rootVar wr D L G t f n = w6 := ⟨_, rfl⟩
          rw [hw6] at hr6 ho6 hb6
          have c6 : w6.cell? ⟨wr.heap.size, 3, none⟩ = some (.int .u64 t) := by simp [World.cell?, hr6, rootA]
          have c0 : w6.cell? ⟨w.heap.size, 3, none⟩ = some (.int .u64 (svLast R k).t) := by simp [World.cell?, ho6, rtA, rootA]
          have H := hide (And.intro hw6 (And.intro hr6 (And.intro ho6 (And.intro hb6 hl))))
          clear hB hbw hrk hl hrow hw6 hr6 ho6 hb6 hB0 hbw0
          by_cases hgt : (svLast R k).t < t
          · go_wp2_with (first | (show wpList _ _ _ ({ dst := none, op := Op.store 63 (.tmp 5) (.tmp 16), type := _, pos := _, after := _, guard := _ } :: _) _ _; refine rt_new (w := wr) (D := D) (L := L) (G := G) (t := t) (f := f) (n := n) rfl (.tmp 5) (.tmp 16) rfl (by rfl) (by rfl) ?_; rw [H.out.1]) | (show wpList _ _ _ ({ dst := some 26, op := _, type := _, pos := _, after := _, guard := _ } :: _) _ _; refine rt_load (D := D) (L := L) (G := G) (t := t) (f := f) (n := n) (b := wr.heap.size) rfl (.tmp 5) rfl rfl (by rfl) (by exact H.out.2.1) ?_) | (show wpList _ _ _ ({ dst := none, op := Op.store 63 (.tmp 2) (.tmp 26), type := _, pos := _, after := _, guard := _ } :: _) _ _; refine rt_store (D := D) (L := L) (G := G) (t := t) (f := f) (n := n) (b := w.heap.size) (cs := rtA (svLast R k)) rfl (.tmp 2) (.tmp 26) rfl (by rfl) (by rfl) (by exact H.out.2.2.1) rfl ?_))
            obtain ⟨_, q3, q4, q5, q7⟩ := H.out
            refine ⟨⟨k + 1, by omega, by go_num, ?_, q5.trans ⟨rfl, rfl, rfl, by rw [size_setRow]; exact Nat.le_refl _, fun k hk => (grown_setRow' _ _ _).block k (Nat.lt_of_lt_of_le hk q5.size) (fun q => by have := Option.some.inj q; omega)⟩⟩, by simp [intOf]; omega⟩
            rw [q7]
            rw [show svStep (svLast R k) (some (.root D L G t f n)) = ⟨D, L, G, t, f, n⟩ from if_pos hgt]
            exact setRow_heap _ _ _ _ _ _ q4
          · go_wp2_with (show wpList _ _ _ ({ dst := none, op := Op.store 63 (.tmp 5) (.tmp 16), type := _, pos := _, after := _, guard := _ } :: _) _ _; refine rt_new (w := wr) (D := D) (L := L) (G := G) (t := t) (f := f) (n := n) rfl (.tmp 5) (.tmp 16) rfl (by rfl) (by rfl) ?_; rw [H.out.1])
            obtain ⟨_, q3, q4, q5, q7⟩ := H.out
            refine ⟨⟨k + 1, by omega, by go_num, ?_, q5⟩, by simp [intOf]; omega⟩
            rw [q7]
            rw [show svStep (svLast R k) (some (.root D L G t f n)) = svLast R k from if_neg hgt]
            exact q4
    · have hkN : k = N := by omega
      subst hkN
      have H := hide (And.intro hB hbw)
      clear hB hbw hrow
      go_wp2_with (first | (show wpList _ _ _ ({ dst := some 28, op := _, type := _, pos := _, after := _, guard := _ } :: _) _ _; refine rt_load (b := w.heap.size) (ra := rtA (svLast R k)) rfl (.tmp 2) rfl rfl (by rfl) (by exact H.out.1) ?_) | (show wpList _ _ _ ({ dst := none, op := Op.store 63 (.tmp 2) (.tmp 28), type := _, pos := _, after := _, guard := _ } :: _) _ _; refine rt_store (b := w.heap.size) (cs := rtA (svLast R k)) (D := (svLast R k).D) (L := (svLast R k).L) (G := (svLast R k).G) (t := (svLast R k).t) (f := (svLast R k).f) (n := (svLast R k).n) rfl (.tmp 2) (.tmp 28) rfl (by rfl) (by rfl) (by exact H.out.1) rfl ?_))
      have h5 := setRow_heap _ _ _ (rtA (svLast R k)) _ _ H.out.1
      refine bodyPost_ret (v := .agg (rtA (svLast R k))) (results_cell_row Tryz.results30 _ _ w.heap.size 63 (rtA (svLast R k)) (0, 0) _ rfl h5 Tryz.underlying63 rfl (rootA_info _ _ _ _ _ _)) rfl ?_
      exact ⟨rfl, H.out.2.trans ⟨rfl, rfl, rfl, by rw [size_setRow]; exact Nat.le_refl _, fun k hk => (grown_setRow' _ _ _).block k (Nat.lt_of_lt_of_le hk H.out.2.size) (fun q => by have := Option.some.inj q; omega)⟩⟩
end Go.Proofs.YtogdeaaphdlchaaGreatDoor
/-
  unlike: where the same root stands on every drive.
-/
namespace Go.Proofs.YtogdeaaphdlchaaGreatDoor
open Go.RowKit Go.Deep Gf

def UnR (w : World) (N : Nat) (s i : Value) (wr : World) : Prop := ∃ k : Nat, k ≤ N ∧ i = .int .i64 k ∧ s = .int .u64 0 ∧ wr = w
set_option maxRecDepth 100000 in
set_option maxHeartbeats 2000000 in
theorem unlike_same {w : World} {g N D L G t f n : Nat} (hN : N ≤ 60) (hrow : w.rowIs g 125 N (fun _ => recV (.root D L G t f n))) :
    Calls Tryz.prog 45 #[.slice (some ⟨g, 0, none⟩) N N, recV (.root D L G t f n)] w fun e w' => e = .returned (.int .u64 0) ∧ w' = w := by
  have hgl := hrow.lt
  have heq := eqRec_same D L G t f n
  obtain ⟨rv, hrv⟩ : ∃ rv, Value.agg (rootA D L G t f n) = rv := ⟨_, rfl⟩
  have hrv2 : recV (.root D L G t f n) = .iface 63 rv := by rw [← hrv]; rfl
  rw [hrv2] at hrow heq ⊢
  have hne : ∀ w : World, (binOp .neq 125 (.iface 63 rv) (.iface 63 rv)).run Tryz.prog w = .ok (.bool false) w := fun w => by
    simp only [binOp]
    simp [Op.equal, Op.maxDepth, heq w]
  clear hrv hrv2
  go_enter Tryz.func45, Tryz.ntmps45
  go_wp2_with fail
  go_loopw [4, 9] (fun s i wr => UnR w N s i wr) (fun _ i _ => N - (intOf i).toNat)
  case atStart => exact ⟨0, Nat.zero_le _, rfl, rfl, rfl⟩
  case round =>
    obtain ⟨k, hk, rfl, rfl, rfl⟩ := hrel
    by_cases hlt : k < N
    · have c := hrow.cell (i := k) hlt
      have H := hide hrow
      clear hrow
      go_wp2
      refine ⟨⟨k + 1, by omega, by go_num, rfl, rfl⟩, by simp [intOf]; omega⟩
    · have hkN : k = N := by omega
      subst hkN
      clear hrow
      go_wp2
      go_ret
      exact ⟨rfl, rfl⟩
end Go.Proofs.YtogdeaaphdlchaaGreatDoor
/-
  load: the region that holds the last root's params against the archive's.
-/
namespace Go.Proofs.YtogdeaaphdlchaaGreatDoor
open Go.RowKit Go.Deep Gf

noncomputable def RLg : Array Oper := ((Tryz.f20.body.bind (rgf · 3))).getD #[]
def shLg : List (Op × Option Nat × Option (Nat × Bool) × List Nat) := [(Op.fieldAddr 63 (Operand.tmp 4) 1, some 13, none, []),
    (Op.load 61 (Operand.tmp 13), some 14, none, [0]),
    (Op.binOp BinOp.gtr 61 (Operand.tmp 14) (Operand.const (Value.int IntKind.u64 0)) 61, some 15, none, [1]),
    (Op.move (Operand.tmp 15), some 16, none, [2]),
    (Op.fieldAddr 63 (Operand.tmp 4) 0, some 17, some (3, true), [3]),
    (Op.load 23 (Operand.tmp 17), some 18, some (3, true), [4, 3]),
    (Op.move (Operand.tmp 0), some 19, some (3, true), [3]),
    (Op.nilCheck (Operand.tmp 19), some 20, some (3, true), [6, 3]),
    (Op.fieldAddr 68 (Operand.tmp 20) 0, some 21, some (3, true), [7, 3]),
    (Op.load 59 (Operand.tmp 21), some 22, some (3, true), [8, 3]),
    (Op.call { callee := Callee.value (Operand.func 31), args := #[Operand.tmp 22], argTypes := #[59] }, some 23, some (3, true), [9, 3, 3]),
    (Op.binOp BinOp.neq 23 (Operand.tmp 18) (Operand.tmp 23) 23, some 24, some (3, true), [5, 10, 3]),
    (Op.pick (Operand.tmp 16) (Operand.tmp 24) (Operand.const (Value.bool false)), some 25, none, [3, 11]),
    (Op.assign (Operand.tmp 25), some 12, none, [12, 10])]
theorem RLg_shape : RegShapeG RLg 12 26 shLg := regShapeG (by kernel_rfl) (by kernel_rfl)
def vsLg (ar v q D L G D1 L1 G1 t : Nat) : List Value := [.pointer (some ⟨q, 3, none⟩), .int .u64 t, .bool true, .bool true, .pointer (some ⟨q, 0, none⟩), .agg #[.int .i64 D1, .int .i64 L1, .int .i64 G1], .pointer (some ⟨ar, 0, none⟩), .pointer (some ⟨ar, 0, none⟩), .pointer (some ⟨ar, 0, none⟩), .pointer (some ⟨v, 0, none⟩), .agg #[.int .i64 D, .int .i64 L, .int .i64 G], .bool (!decide ((D1 : Int) = D ∧ (L1 : Int) = L ∧ (G1 : Int) = G)), .bool (!decide ((D1 : Int) = D ∧ (L1 : Int) = L ∧ (G1 : Int) = G)), .bool (!decide ((D1 : Int) = D ∧ (L1 : Int) = L ∧ (G1 : Int) = G))]
set_option maxRecDepth 100000 in
set_option maxHeartbeats 1000000 in
theorem load_region {ops : Array Oper} {Q : Exit → Act → World → Prop} {a : Act} {w : World} {ar v p D L G ps ho q D1 L1 G1 t f m : Nat} {cs : Array Value} (hV : VolAt w v p D L G ps ho) (har : w.heap[ar]? = some (.cells cs 68 (0, 0))) (h0 : cs[0]? = some (.pointer (some ⟨v, 0, none⟩))) (hq : w.heap[q]? = some (.cells (rootA D1 L1 G1 t f m) 63 (0, 0))) (ht : 0 < t) (hops : RLg = ops) (hsz : a.tmps.size = 48)
    (e0 : a.eval (.tmp 0) = .pointer (some ⟨ar, 0, none⟩)) (e4 : a.eval (.tmp 4) = .pointer (some ⟨q, 0, none⟩))
    (hQ : ∀ (w' : World), Below w.heap.size w w' → Q .normal (Act.putFrom a 12 [.bool (!decide ((D1 : Int) = D ∧ (L1 : Int) = L ∧ (G1 : Int) = G)), .pointer (some ⟨q, 3, none⟩), .int .u64 t, .bool true, .bool true, .pointer (some ⟨q, 0, none⟩), .agg #[.int .i64 D1, .int .i64 L1, .int .i64 G1], .pointer (some ⟨ar, 0, none⟩), .pointer (some ⟨ar, 0, none⟩), .pointer (some ⟨ar, 0, none⟩), .pointer (some ⟨v, 0, none⟩), .agg #[.int .i64 D, .int .i64 L, .int .i64 G], .bool (!decide ((D1 : Int) = D ∧ (L1 : Int) = L ∧ (G1 : Int) = G)), .bool (!decide ((D1 : Int) = D ∧ (L1 : Int) = L ∧ (G1 : Int) = G))]) w') : (Code.region 3 ops true).wp Tryz.prog Q a w := by
  subst hops
  have harl : ar < w.heap.size := (Array.getElem?_eq_some_iff.1 har).1
  have hql : q < w.heap.size := (Array.getElem?_eq_some_iff.1 hq).1
  have har' : ∀ w', Below w.heap.size w w' → w'.cell? ⟨ar, 0, none⟩ = some (.pointer (some ⟨v, 0, none⟩)) := fun w' hO => by
    have := (hO.block ar harl).trans har
    simp [World.cell?, this, h0]
  have hq' : ∀ w', Below w.heap.size w w' → w'.cell? ⟨q, 0, none⟩ = some (.int .i64 D1) ∧ w'.cell? ⟨q, 1, none⟩ = some (.int .i64 L1) ∧ w'.cell? ⟨q, 2, none⟩ = some (.int .i64 G1) ∧ w'.cell? ⟨q, 3, none⟩ = some (.int .u64 t) := fun w' hO => by
    have := (hO.block q hql).trans hq
    simp [World.cell?, this, rootA]
  refine region_factsSG (by kernel_rfl) RLg_shape a w (by omega) (fun i u _ => u = (vsLg ar v q D L G D1 L1 G1 t).getD i undef) (fun _ w' => Below w.heap.size w w') ((Below.refl _ w).drew) ?_ ?_
  · intro i hi
    match i, hi with
    | 0, _ =>
      intro o a' w' Dn hg ho hdst hk hDi hcl hdep hB hV'
      refine .inl ⟨wanted_free hg _, ?_⟩
      have u0 : a'.eval (.tmp 4) = .pointer (some ⟨q, 0, none⟩) := (hk.slot 4 (by omega)).trans e4
      exact op_val (v := .pointer (some ⟨q, 3, none⟩)) (by simp only [execOp, show o.op = Op.fieldAddr 63 (Operand.tmp 4) 1 from ho, u0]; go_simp) hdst ⟨hB, rfl, fun _ _ _ q => q⟩
    | 1, _ =>
      intro o a' w' Dn hg ho hdst hk hDi hcl hdep hB hV'
      refine .inl ⟨wanted_free hg _, ?_⟩
      have u0 : a'.eval (.tmp 13) = .pointer (some ⟨q, 3, none⟩) := hV' 0 (hdep 0 (by decide))
      obtain ⟨_, _, _, c⟩ := hq' w' hB
      exact op_val (v := .int .u64 t) (by simp only [execOp, show o.op = Op.load 61 (Operand.tmp 13) from ho, u0]; go_simp) hdst ⟨hB, rfl, fun _ _ _ q => q⟩
    | 2, _ =>
      intro o a' w' Dn hg ho hdst hk hDi hcl hdep hB hV'
      refine .inl ⟨wanted_free hg _, ?_⟩
      have u0 : a'.eval (.tmp 14) = .int .u64 t := hV' 1 (hdep 1 (by decide))
      have hd : decide ((t : Int) > 0) = true := decide_eq_true (by omega)
      exact op_val (v := .bool true) (by simp only [execOp, show o.op = Op.binOp BinOp.gtr 61 (Operand.tmp 14) (Operand.const (Value.int IntKind.u64 0)) 61 from ho, u0]; go_simp) hdst ⟨hB, rfl, fun _ _ _ q => q⟩
    | 3, _ =>
      intro o a' w' Dn hg ho hdst hk hDi hcl hdep hB hV'
      refine .inl ⟨wanted_free hg _, ?_⟩
      have u0 : a'.eval (.tmp 15) = .bool true := hV' 2 (hdep 2 (by decide))
      exact op_val (run_op_move ho u0 w') hdst ⟨hB, rfl, fun _ _ _ q => q⟩
    | 4, _ =>
      intro o a' w' Dn hg ho hdst hk hDi hcl hdep hB hV'
      have hgd : a'.eval (.tmp 16) = .bool true := hV' 3 (hdep 3 (by decide))
      refine .inl ⟨(wanted_at (sh := shLg) (a := a') (j := 3) (d := 16) (b := true) (x := true) hg rfl hgd), ?_⟩
      have u0 : a'.eval (.tmp 4) = .pointer (some ⟨q, 0, none⟩) := (hk.slot 4 (by omega)).trans e4
      exact op_val (v := .pointer (some ⟨q, 0, none⟩)) (by simp only [execOp, show o.op = Op.fieldAddr 63 (Operand.tmp 4) 0 from ho, u0]; go_simp) hdst ⟨hB, rfl, fun _ _ _ q => q⟩
    | 5, _ =>
      intro o a' w' Dn hg ho hdst hk hDi hcl hdep hB hV'
      have hgd : a'.eval (.tmp 16) = .bool true := hV' 3 (hdep 3 (by decide))
      refine .inl ⟨(wanted_at (sh := shLg) (a := a') (j := 3) (d := 16) (b := true) (x := true) hg rfl hgd), ?_⟩
      have u0 : a'.eval (.tmp 17) = .pointer (some ⟨q, 0, none⟩) := hV' 4 (hdep 4 (by decide))
      obtain ⟨c0, c1, c2, _⟩ := hq' w' hB
      exact op_val (v := .agg #[.int .i64 D1, .int .i64 L1, .int .i64 G1]) (by simp only [execOp, show o.op = Op.load 23 (Operand.tmp 17) from ho, u0]; go_simp) hdst ⟨hB, rfl, fun _ _ _ q => q⟩
    | 6, _ =>
      intro o a' w' Dn hg ho hdst hk hDi hcl hdep hB hV'
      have hgd : a'.eval (.tmp 16) = .bool true := hV' 3 (hdep 3 (by decide))
      refine .inl ⟨(wanted_at (sh := shLg) (a := a') (j := 3) (d := 16) (b := true) (x := true) hg rfl hgd), ?_⟩
      have u0 : a'.eval (.tmp 0) = .pointer (some ⟨ar, 0, none⟩) := (hk.slot 0 (by omega)).trans e0
      exact op_val (run_op_move ho u0 w') hdst ⟨hB, rfl, fun _ _ _ q => q⟩
    | 7, _ =>
      intro o a' w' Dn hg ho hdst hk hDi hcl hdep hB hV'
      have hgd : a'.eval (.tmp 16) = .bool true := hV' 3 (hdep 3 (by decide))
      refine .inl ⟨(wanted_at (sh := shLg) (a := a') (j := 3) (d := 16) (b := true) (x := true) hg rfl hgd), ?_⟩
      have u0 : a'.eval (.tmp 19) = .pointer (some ⟨ar, 0, none⟩) := hV' 6 (hdep 6 (by decide))
      exact op_val (v := .pointer (some ⟨ar, 0, none⟩)) (by simp only [execOp, show o.op = Op.nilCheck (Operand.tmp 19) from ho, u0]; go_simp) hdst ⟨hB, rfl, fun _ _ _ q => q⟩
    | 8, _ =>
      intro o a' w' Dn hg ho hdst hk hDi hcl hdep hB hV'
      have hgd : a'.eval (.tmp 16) = .bool true := hV' 3 (hdep 3 (by decide))
      refine .inl ⟨(wanted_at (sh := shLg) (a := a') (j := 3) (d := 16) (b := true) (x := true) hg rfl hgd), ?_⟩
      have u0 : a'.eval (.tmp 20) = .pointer (some ⟨ar, 0, none⟩) := hV' 7 (hdep 7 (by decide))
      exact op_val (v := .pointer (some ⟨ar, 0, none⟩)) (by simp only [execOp, show o.op = Op.fieldAddr 68 (Operand.tmp 20) 0 from ho, u0]; go_simp) hdst ⟨hB, rfl, fun _ _ _ q => q⟩
    | 9, _ =>
      intro o a' w' Dn hg ho hdst hk hDi hcl hdep hB hV'
      have hgd : a'.eval (.tmp 16) = .bool true := hV' 3 (hdep 3 (by decide))
      refine .inl ⟨(wanted_at (sh := shLg) (a := a') (j := 3) (d := 16) (b := true) (x := true) hg rfl hgd), ?_⟩
      have u0 : a'.eval (.tmp 21) = .pointer (some ⟨ar, 0, none⟩) := hV' 8 (hdep 8 (by decide))
      have c := har' w' hB
      exact op_val (v := .pointer (some ⟨v, 0, none⟩)) (by simp only [execOp, show o.op = Op.load 59 (Operand.tmp 21) from ho, u0]; go_simp) hdst ⟨hB, rfl, fun _ _ _ q => q⟩
    | 10, _ =>
      intro o a' w' Dn hg ho hdst hk hDi hcl hdep hB hV'
      have hgd : a'.eval (.tmp 16) = .bool true := hV' 3 (hdep 3 (by decide))
      refine .inl ⟨(wanted_at (sh := shLg) (a := a') (j := 3) (d := 16) (b := true) (x := true) hg rfl hgd), ?_⟩
      have u0 : a'.eval (.tmp 22) = .pointer (some ⟨v, 0, none⟩) := hV' 9 (hdep 9 (by decide))
      refine op_call (f := 31) (args := #[.pointer (some ⟨v, 0, none⟩)]) (w1 := w') (by simp only [execOp, show o.op = Op.call { callee := Callee.value (Operand.func 31), args := #[Operand.tmp 22], argTypes := #[59] } from ho]; go_simp; simpa [Act.eval] using u0) hdst (volParams_any (hV.keep (hB.block _ hV.lt))) ?_
      rintro e w'' ⟨rfl, hb⟩
      exact ⟨_, rfl, hB.trans (hb.mono hB.size), rfl, fun _ _ _ q => q⟩
    | 11, _ =>
      intro o a' w' Dn hg ho hdst hk hDi hcl hdep hB hV'
      have hgd : a'.eval (.tmp 16) = .bool true := hV' 3 (hdep 3 (by decide))
      refine .inl ⟨(wanted_at (sh := shLg) (a := a') (j := 3) (d := 16) (b := true) (x := true) hg rfl hgd), ?_⟩
      have u0 : a'.eval (.tmp 18) = .agg #[.int .i64 D1, .int .i64 L1, .int .i64 G1] := hV' 5 (hdep 5 (by decide))
      have u1 : a'.eval (.tmp 23) = .agg #[.int .i64 D, .int .i64 L, .int .i64 G] := hV' 10 (hdep 10 (by decide))
      have he := eqParams D1 L1 G1 D L G
      exact op_val (v := .bool (!decide ((D1 : Int) = D ∧ (L1 : Int) = L ∧ (G1 : Int) = G))) (by simp only [execOp, show o.op = Op.binOp BinOp.neq 23 (Operand.tmp 18) (Operand.tmp 23) 23 from ho, u0, u1]; go_simp) hdst ⟨hB, rfl, fun _ _ _ q => q⟩
    | 12, _ =>
      intro o a' w' Dn hg ho hdst hk hDi hcl hdep hB hV'
      refine .inl ⟨wanted_free hg _, ?_⟩
      have u0 : a'.eval (.tmp 16) = .bool true := hV' 3 (hdep 3 (by decide))
      have u1 : a'.eval (.tmp 24) = .bool (!decide ((D1 : Int) = D ∧ (L1 : Int) = L ∧ (G1 : Int) = G)) := hV' 11 (hdep 11 (by decide))
      exact op_val (v := .bool (!decide ((D1 : Int) = D ∧ (L1 : Int) = L ∧ (G1 : Int) = G))) (by simp only [execOp, show o.op = Op.pick (Operand.tmp 16) (Operand.tmp 24) (Operand.const (Value.bool false)) from ho, u0, u1]; go_simp) hdst ⟨hB, rfl, fun _ _ _ q => q⟩
    | 13, _ =>
      intro o a' w' Dn hg ho hdst hk hDi hcl hdep hB hV'
      refine .inl ⟨wanted_free hg _, ?_⟩
      have u0 : a'.eval (.tmp 25) = .bool (!decide ((D1 : Int) = D ∧ (L1 : Int) = L ∧ (G1 : Int) = G)) := hV' 12 (hdep 12 (by decide))
      exact op_val (v := .bool (!decide ((D1 : Int) = D ∧ (L1 : Int) = L ∧ (G1 : Int) = G))) (by simp only [execOp, show o.op = Op.assign (Operand.tmp 25) from ho, u0]; go_simp) hdst ⟨hB, rfl, fun _ _ _ q => q⟩
    | n + 14, hn => exact absurd hn (by show ¬ n + 14 < 14; omega)
  · rintro a' w' hk' hsame ⟨Dn, hD', hB⟩ hV'
    have e : a' = Act.putFrom a 12 [.bool (!decide ((D1 : Int) = D ∧ (L1 : Int) = L ∧ (G1 : Int) = G)), .pointer (some ⟨q, 3, none⟩), .int .u64 t, .bool true, .bool true, .pointer (some ⟨q, 0, none⟩), .agg #[.int .i64 D1, .int .i64 L1, .int .i64 G1], .pointer (some ⟨ar, 0, none⟩), .pointer (some ⟨ar, 0, none⟩), .pointer (some ⟨ar, 0, none⟩), .pointer (some ⟨v, 0, none⟩), .agg #[.int .i64 D, .int .i64 L, .int .i64 G], .bool (!decide ((D1 : Int) = D ∧ (L1 : Int) = L ∧ (G1 : Int) = G)), .bool (!decide ((D1 : Int) = D ∧ (L1 : Int) = L ∧ (G1 : Int) = G))] := hk'.out _ rfl (by omega) (fun i hi => ?_)
    · rw [e]; exact hQ w' hB
    · match i, hi with
      | 0, _ => exact hV' 13 (by decide)
      | 1, _ => exact hV' 0 (by decide)
      | 2, _ => exact hV' 1 (by decide)
      | 3, _ => exact hV' 2 (by decide)
      | 4, _ => exact hV' 3 (by decide)
      | 5, _ => exact hV' 4 (by decide)
      | 6, _ => exact hV' 5 (by decide)
      | 7, _ => exact hV' 6 (by decide)
      | 8, _ => exact hV' 7 (by decide)
      | 9, _ => exact hV' 8 (by decide)
      | 10, _ => exact hV' 9 (by decide)
      | 11, _ => exact hV' 10 (by decide)
      | 12, _ => exact hV' 11 (by decide)
      | 13, _ => exact hV' 12 (by decide)
      | n + 14, hn => exact absurd hn (by simp)
end Go.Proofs.YtogdeaaphdlchaaGreatDoor
/-
  The laws on Decodable: their walks.
-/
namespace Go.Proofs.YtogdeaaphdlchaaGreatDoor
open Go.RowKit Go.Deep Gf

theorem right_nat' {D L G : Int} (h : rightB D L G = true) : ∃ d l g : Nat, D = d ∧ L = l ∧ G = g ∧ 1 ≤ d ∧ d ≤ 12 ∧ 1 ≤ l ∧ l ≤ 4 ∧ g ≤ 4 ∧ d % l = 0 ∧ d + l + g ≤ 16 := by
  unfold rightB at h
  rw [decide_eq_true_eq] at h
  obtain ⟨h1, h2, h3, h4, h5, h6, h7, h8⟩ := h
  refine ⟨D.toNat, L.toNat, G.toNat, by omega, by omega, by omega, by omega, by omega, by omega, by omega, by omega, ?_, by omega⟩
  have e1 : (D.toNat : Int) = D := by omega
  have e2 : (L.toNat : Int) = L := by omega
  have : ((D.toNat % L.toNat : Nat) : Int) = 0 := by rw [Int.natCast_emod, e1, e2]; exact h7
  omega
def DcP (D L G : Int) (lost : Nat) (w : World) (e : Ending) (w' : World) : Prop := ∃ b : Bool, e = .returned (.bool b) ∧ (b = true ↔ rightB D L G = true ∧ Told D.toNat L.toNat G.toNat lost) ∧ Below w.heap.size w w'
theorem decodable_any (D L G : Int) (lost : Nat) (hl : lost < 18446744073709551616) (w : World) :
    Calls Tryz.prog 33 #[.agg #[.int .i64 D, .int .i64 L, .int .i64 G], .int .u64 lost] w fun e w' => DcP D L G lost w e w' := by
  cases hr : rightB D L G with
  | false =>
    refine (decodable_wrong D L G lost hr w).mono ?_
    rintro e w' ⟨rfl, hb⟩
    exact ⟨false, rfl, by simp [hr], hb⟩
  | true =>
    obtain ⟨d, l, g, rfl, rfl, rfl, q1, q2, q3, q4, q5, q6, q7⟩ := right_nat' hr
    refine (decodable_right d l g lost hr q2 q3 q4 q5 q6 hl w).mono ?_
    rintro e w' ⟨b, rfl, h, hb⟩
    exact ⟨b, rfl, by simp [hr, h], hb⟩
end Go.Proofs.YtogdeaaphdlchaaGreatDoor
