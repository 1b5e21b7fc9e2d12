import Derived.Test.YthhommjlomphdabDoorPart03
import Derived.Laws.Tables
import Derived.Laws.CopyOwn
import Derived.Deep.RegionWith
import Derived.Deep.WholeRow
/-
  Tables of products, and rows that are added to rows.
-/
namespace Go.Proofs.YthhommjlomphdabDoor
open Go.RowKit Go.Deep Gf

/-- what a table holds -/
def tabN (c j : Nat) : Nat := if j < 16 then gm c j else gm c ((j - 16) * 16)
def tv (f : Nat → Nat) (j : Nat) : Value := .int .u8 ((f j : Nat) : Int)
theorem mul_eq {x y : Int} (a b : Nat) (hx : x = (a : Int)) (hy : y = (b : Int)) (ha : a < 256) (hb : b < 256) (w : World) :
    Calls Tryd.prog 61 #[.int .u8 x, .int .u8 y] w fun e w' => e = .returned (.int .u8 ((gm a b : Nat) : Int)) ∧ w' = w := by
  subst hx hy; exact mul_any a b ha hb w
/-- the products with the first n numbers -/
def mulTo (c n j : Nat) : Nat := if j < n then gm c j else 0
/-- the powers of 2 that the loop goes through -/
def pw2 (q : Nat) : Prop := q = 1 ∨ q = 2 ∨ q = 4 ∨ q = 8 ∨ q = 16
def MulR (w : World) (B c : Nat) (i d : Value) (wr : World) : Prop :=
  ∃ q : Nat, pw2 q ∧ i = .int .i64 q ∧ d = .int .u8 ((gm c q : Nat) : Int) ∧ wr.rowIs (B + 1) 65 16 (tv (mulTo c q)) ∧ wr.rowIs B 65 16 (fun _ => .int .u8 0) ∧ Below B w wr
def MulR2 (w : World) (B c q : Nat) (i : Value) (wr : World) : Prop :=
  ∃ k : Nat, k ≤ q ∧ i = .int .i64 k ∧ wr.rowIs (B + 1) 65 16 (tv (mulTo c (q + k))) ∧ wr.rowIs B 65 16 (fun _ => .int .u8 0) ∧ Below B w wr
theorem zero16 (w : World) : (w.alloc (.cells (Array.replicate 16 (.int .u8 0)) 65)).rowIs w.heap.size 65 16 (fun _ => .int .u8 0) := by
  have h := World.rowIs_alloc w (Array.replicate 16 (.int .u8 0)) 65 (fun _ => .int .u8 0) (fun i hi => by simp at hi; simp [hi])
  simpa using h
theorem zero32 (w : World) : (w.alloc (.cells (Array.replicate 32 (.int .u8 0)) 123)).rowIs w.heap.size 123 32 (fun _ => .int .u8 0) := by
  have h := World.rowIs_alloc w (Array.replicate 32 (.int .u8 0)) 123 (fun _ => .int .u8 0) (fun i hi => by simp at hi; simp [hi])
  simpa using h
theorem xor_pow1 : ∀ i, i < 1 → i ^^^ 1 = 1 + i := by decide
theorem xor_pow2 : ∀ i, i < 2 → i ^^^ 2 = 2 + i := by decide
theorem xor_pow4 : ∀ i, i < 4 → i ^^^ 4 = 4 + i := by decide
theorem xor_pow8 : ∀ i, i < 8 → i ^^^ 8 = 8 + i := by decide
theorem xor_pow {q i : Nat} (hq : pw2 q) (h16 : q < 16) (h : i < q) : i ^^^ q = q + i := by
  rcases hq with rfl | rfl | rfl | rfl | rfl
  · exact xor_pow1 i h
  · exact xor_pow2 i h
  · exact xor_pow4 i h
  · exact xor_pow8 i h
  · omega
theorem tx_gm1 : ∀ c, c < 256 → tx (gm c 1) = gm c 2 := by decide +kernel
theorem tx_gm2 : ∀ c, c < 256 → tx (gm c 2) = gm c 4 := by decide +kernel
theorem tx_gm4 : ∀ c, c < 256 → tx (gm c 4) = gm c 8 := by decide +kernel
theorem tx_gm8 : ∀ c, c < 256 → tx (gm c 8) = gm c 16 := by decide +kernel
theorem tx_gm {q c : Nat} (hq : pw2 q) (h16 : q < 16) (hc : c < 256) : tx (gm c q) = gm c (q * 2) := by
  rcases hq with rfl | rfl | rfl | rfl | rfl
  · exact tx_gm1 c hc
  · exact tx_gm2 c hc
  · exact tx_gm4 c hc
  · exact tx_gm8 c hc
  · omega
theorem pw2_next {q : Nat} (hq : pw2 q) (h16 : q < 16) : pw2 (q * 2) := by unfold pw2 at *; omega
theorem mulTo_step {c q k : Nat} (hq : pw2 q) (h16 : q < 16) (hk : k < q) (j : Nat) : tv (mulTo c (q + (k + 1))) j = if j = q + k then .int .u8 ((mulTo c (q + k) k ^^^ gm c q : Nat) : Int) else tv (mulTo c (q + k)) j := by
  unfold tv mulTo
  by_cases h1 : j = q + k
  · rw [if_pos h1, if_pos (by omega), if_pos (by omega), ← gm_add, xor_pow hq h16 hk, h1]
  · rw [if_neg h1]
    by_cases h2 : j < q + k
    · rw [if_pos h2, if_pos (by omega)]
    · rw [if_neg h2, if_neg (by omega)]
theorem one_cells {cs : Array Value} {f : Nat → Nat} {n : Nat} (hs : cs.size = n) (h : ∀ j, j < n → cs[j]? = some (tv f j)) : cs.all (fun v => v.oneCell') = true := by
  rw [Array.all_eq_true]
  intro i hi
  have := h i (by omega)
  rw [Array.getElem?_eq_getElem hi] at this
  simp at this
  rw [this]; rfl
theorem timesX_eq {x : Int} (a : Nat) (hx : x = (a : Int)) (h : a < 256) (w : World) : Calls Tryd.prog 65 #[.int .u8 x] w fun e w' => e = .returned (.int .u8 (tx a : Int)) ∧ w' = w := by
  subst hx; exact timesX_any a h w
theorem mulTo_lt (c n j : Nat) (hc : c < 256) : mulTo c n j < 256 := by
  unfold mulTo; split
  · exact gm_lt _ hc
  · decide
theorem Tryd.infoArr16 : (Tryd.prog.info? 65).map (fun i => i.size) = some 16 := by kernel_rfl
set_option maxRecDepth 100000 in
set_option maxHeartbeats 4000000 in
theorem multiples_any (c : Nat) (hc : c < 256) (w : World) :
    Calls Tryd.prog 68 #[.int .u8 c] w fun e w' => ∃ cs : Array Value, e = .returned (.agg cs) ∧ cs.size = 16 ∧ (∀ j, j < 16 → cs[j]? = some (tv (mulTo c 16) j)) ∧ Below w.heap.size w w' := by
  go_enter Tryd.func68, Tryd.ntmps68
  go_wp2
  go_loopw [4, 0] (fun i d wr => MulR w w.heap.size c i d wr) (fun i _ _ => 16 - (intOf i).toNat)
  case atStart =>
    refine ⟨1, .inl rfl, rfl, by rw [gm_one c hc], ?_, ?_, ?_⟩
    · have h := zero16 (w.alloc (.cells (Array.replicate 16 (.int .u8 0)) 65))
      rw [nblk_alloc] at h
      refine h.congr fun j hj => ?_
      unfold tv mulTo
      by_cases e : j < 1
      · rw [if_pos e, show j = 0 by omega, gm_zero]; rfl
      · rw [if_neg e]; rfl
    · exact (zero16 w).alloc _
    · exact ((Below.refl _ _).alloc (Nat.le_refl _) _).alloc (by rw [nblk_alloc]; omega) _
  case round =>
    obtain ⟨q, hq, rfl, rfl, hR, hZ, hb⟩ := hrel
    have hq16 : q ≤ 16 := by unfold pw2 at hq; omega
    have hgq : gm c q < 256 := gm_lt _ hc
    by_cases hlt : q < 16
    · have hq8 : q ≤ 8 := by unfold pw2 at hq; omega
      have HQ := hide hq
      have H0 := hide (show MulR2 w w.heap.size c q (.int .i64 (0 : Nat)) wr from ⟨0, Nat.zero_le _, rfl, hR, hZ, hb⟩)
      clear hR hZ hb hq
      have hqi : (q : Int) < 16 := by omega
      rename World => wo
      go_wp2
      go_loopw [11] (fun i wr => MulR2 w w.heap.size c q i wr) (fun i _ => q - (intOf i).toNat)
      case atStart => exact H0.out
      case round =>
        obtain ⟨k, hk, rfl, hR, hZ, hb⟩ := hrel
        by_cases hkq : k < q
        · have c1 := hR.cell (i := k) (by omega)
          have c2 := hR.cell (i := q + k) (by omega)
          have f2 := hR.frozen (q + k)
          have hml := mulTo_lt c (q + k) k hc
          have hxx := u8_xor _ _ hml hgq
          have hR2 := (hR.set (q + k) (.int .u8 ((mulTo c (q + k) k ^^^ gm c q : Nat) : Int))).congr (fun j hj => (mulTo_step HQ.out hlt hkq j).symm)
          have hZ2 := hZ.setOther (a := ⟨w.heap.size + 1, q + k, none⟩) (by simp) (.int .u8 ((mulTo c (q + k) k ^^^ gm c q : Nat) : Int))
          have hb2 := hb.setCell (p := ⟨w.heap.size + 1, q + k, none⟩) (by simp) (.int .u8 ((mulTo c (q + k) k ^^^ gm c q : Nat) : Int))
          have HH := hide (And.intro hR2 (And.intro hZ2 hb2))
          clear hR2 hZ2 hb2 hR hZ hb
          unfold tv at c1 c2
          have hki : (k : Int) < q := by omega
          have hki2 : (k : Int) < 16 := by omega
          have hqk : (q : Int) + (k : Int) < 16 := by omega
          have hwr : IntKind.i64.wrap ((q : Int) + (k : Int)) = ((q + k : Nat) : Int) := by rw [IntKind.wrap_i64]; omega
          have hwk : wrap64 ((q : Int) + (k : Int)) = ((q + k : Nat) : Int) := by unfold wrap64; omega
          go_wp2
          go_roundw
          case rel => exact ⟨k + 1, by omega, by go_num, HH.out.1, HH.out.2.1, HH.out.2.2⟩
          case measure => simp [intOf]; omega
        · have hkk : k = q := by omega
          have HR := hide (And.intro hR (And.intro hZ hb))
          clear hR hZ hb
          have hki : ¬ ((k : Int) < q) := by omega
          go_wp2_with fail
          refine (timesX_eq (gm c q) rfl hgq _).mono ?_
          rintro e w' ⟨rfl, rfl⟩
          go_wp2
          go_roundw
          case rel => exact ⟨q * 2, pw2_next HQ.out hlt, by go_num, by rw [tx_gm HQ.out hlt hc], by have := HR.out.1; rwa [hkk, show q + q = q * 2 by omega] at this, HR.out.2.1, HR.out.2.2⟩
          case measure => have hh := HQ.out; unfold pw2 at hh; simp only [intOf]; omega
    · have hq16 : q = 16 := by omega
      subst hq16
      obtain ⟨cs, hcs, hsz, hget⟩ := hR
      obtain ⟨zs, hzs, hzz, _⟩ := hZ
      have h1 := one_cells hsz hget
      have HG := hide hget
      have hi : (Tryd.prog.info? 65).map (fun i => i.size) = some cs.size := by rw [Tryd.infoArr16, hsz]
      have HI := hide hi
      have HC := hide hcs
      have HZ := hide hzs
      clear hget hi hcs hzs
      go_wp2_with (first
        | refine wpList_load_row rfl 65 (.tmp 3) rfl (w.heap.size + 1) rfl 65 cs (0, 0) _ HC.out Tryd.underlying65 rfl HI.out ?_
        | refine wpList_store_row rfl 65 (.tmp 2) (.tmp 26) rfl w.heap.size cs rfl rfl 65 zs HZ.out HI.out (by omega) h1 ?_)
      exact bodyPost_ret (v := .agg cs) (results_cell_row Tryd.results68 _ _ w.heap.size 65 cs (0, 0) _ rfl (setRow_heap _ _ zs cs _ _ HZ.out) Tryd.underlying65 rfl HI.out) rfl ⟨cs, rfl, hsz, HG.out, below_setRow hb (Nat.le_refl _) cs⟩

theorem Tryd.infoTable : (Tryd.prog.info? 123).map (fun i => i.size) = some 32 := by kernel_rfl
theorem mulTo_tab (c j : Nat) (hc : c < 256) (hj : j < 32) : (if j < 16 then mulTo c 16 j else mulTo (gm c 16) 16 (j - 16)) = tabN c j := by
  unfold mulTo tabN
  by_cases h : j < 16
  · rw [if_pos h, if_pos h, if_pos h]
  · rw [if_neg h, if_neg h, if_pos (by omega), gm_assoc hc (by decide) (by omega)]
    congr 1
    have : ∀ x, x < 16 → gm 16 x = x * 16 := by decide +kernel
    exact this _ (by omega)
/-- the cells of a table -/
def tabCs (c : Nat) : Array Value := ((List.range 32).map (fun j => Value.int .u8 ((if j < 16 then mulTo c 16 j else mulTo (gm c 16) 16 (j - 16) : Nat) : Int))).toArray
theorem tabCs_size (c : Nat) : (tabCs c).size = 32 := by unfold tabCs; rw [List.size_toArray, List.length_map, List.length_range]
theorem tabCs_get (c j : Nat) (hc : c < 256) (hj : j < 32) : (tabCs c)[j]? = some (tv (tabN c) j) := by
  unfold tabCs tv
  simp only [List.getElem?_toArray, List.getElem?_map, List.getElem?_range hj, Option.map_some, mulTo_tab c j hc hj]
theorem tabCs_info (c : Nat) : (Tryd.prog.info? 123).map (fun i => i.size) = some (tabCs c).size := by rw [tabCs_size, Tryd.infoTable]
theorem arr16_eq {cs : Array Value} {f : Nat → Nat} (hs : cs.size = 16) (h : ∀ j, j < 16 → cs[j]? = some (tv f j)) :
    cs = #[tv f 0, tv f 1, tv f 2, tv f 3, tv f 4, tv f 5, tv f 6, tv f 7, tv f 8, tv f 9, tv f 10, tv f 11, tv f 12, tv f 13, tv f 14, tv f 15] := by
  have e : cs = ((List.range 16).map (tv f)).toArray := by
    refine Array.ext (by simp [hs]) fun i h1 h2 => ?_
    have := h i (by omega)
    rw [Array.getElem?_eq_getElem h1] at this
    simp at this ⊢
    exact this
  exact e
set_option maxRecDepth 100000 in
set_option maxHeartbeats 4000000 in
theorem tableOf_any (c : Nat) (hc : c < 256) (w : World) :
    Calls Tryd.prog 66 #[.int .u8 c] w fun e w' => ∃ cs : Array Value, e = .returned (.agg cs) ∧ cs.size = 32 ∧ (∀ j, j < 32 → cs[j]? = some (tv (tabN c) j)) ∧ Below w.heap.size w w' := by
  have hZ := zero32 w
  have hg : gm c 16 < 256 := gm_lt _ hc
  go_enter Tryd.func66, Tryd.ntmps66
  go_wp2_with fail
  refine (multiples_any c hc _).mono ?_
  rintro e w1 ⟨cs1, rfl, hs1, hg1, hb1⟩
  obtain rfl := arr16_eq hs1 hg1
  clear hs1 hg1
  simp only [tv]
  go_wp2_with fail
  refine (mul_eq c 16 rfl rfl hc (by decide) _).mono ?_
  rintro e w' ⟨rfl, rfl⟩
  go_wp2_with fail
  refine (multiples_any (gm c 16) hg _).mono ?_
  rintro e w2 ⟨cs2, rfl, hs2, hg2, hb2⟩
  obtain rfl := arr16_eq hs2 hg2
  clear hs2 hg2
  simp only [tv]
  obtain ⟨zs, hzs, hzz, _⟩ := hZ
  have hz2 : w2.heap[w.heap.size]? = some (.cells zs 123 (0, 0)) := (hb2.block _ (by have := hb1.size; rw [nblk_alloc] at this; omega)).trans ((hb1.block _ (by rw [nblk_alloc]; omega)).trans hzs)
  have HZ := hide hz2
  have HB : Hid (Below w.heap.size w w2) := hide ((((Below.refl _ w).alloc (Nat.le_refl _) _).trans (hb1.mono (by rw [nblk_alloc]; omega))).trans (hb2.mono (by have := hb1.size; rw [nblk_alloc] at this; omega)))
  clear hb1 hb2 hzs hz2
  have HI := hide (tabCs_info c)
  have HS : Hid (zs.size = (tabCs c).size) := hide (by rw [hzz, tabCs_size])
  have H1 := hide (one_cells (tabCs_size c) (fun j hj => tabCs_get c j hc hj))
  have HE : Hid (∀ j, j < 32 → (tabCs c)[j]? = some (tv (tabN c) j)) := hide (fun j hj => tabCs_get c j hc hj)
  have HZ2 := hide (tabCs_size c)
  obtain ⟨cs, hcs⟩ : ∃ cs, tabCs c = cs := ⟨_, rfl⟩
  rw [hcs] at HI HS H1 HE HZ2
  have HC := hide hcs
  clear hcs
  go_wp2_with (refine wpList_store_row rfl 123 (.tmp 2) (.tmp 8) rfl w.heap.size cs rfl (by rw [← HC.out]; rfl) 123 zs HZ.out HI.out HS.out H1.out ?_)
  refine bodyPost_ret (v := .agg cs) (results_cell_row Tryd.results66 _ _ w.heap.size 123 cs (0, 0) _ rfl (setRow_heap _ _ zs cs _ _ HZ.out) Tryd.underlying123 rfl HI.out) rfl ?_
  exact ⟨cs, rfl, HZ2.out, HE.out, below_setRow HB.out (Nat.le_refl _) _⟩

/-- a table in memory -/
def TableAt (w : World) (t c : Nat) : Prop := ∀ j, j < 32 → w.cell? ⟨t, j, none⟩ = some (tv (tabN c) j)
theorem split16 : ∀ b, b < 256 → b = (b % 16) ^^^ (b / 16 * 16) := by decide +kernel
theorem times_eq (c b : Nat) (hb : b < 256) : tabN c (b % 16) ^^^ tabN c (16 + b / 16) = gm c b := by
  unfold tabN
  rw [if_pos (by omega), if_neg (by omega), Nat.add_sub_cancel_left, ← gm_add, ← split16 b hb]
theorem tabN_lt (c j : Nat) (hc : c < 256) : tabN c j < 256 := by
  unfold tabN; split <;> exact gm_lt _ hc
theorem and15 (b : Nat) (hb : b < 256) : bits .and .u8 (b : Int) 15 = ((b % 16 : Nat) : Int) := by
  rw [u8_and15 _ (by omega) (by omega)]; rfl
set_option maxRecDepth 100000 in
set_option maxHeartbeats 4000000 in
theorem times_any (t c b : Nat) (hc : c < 256) (hb : b < 256) (w : World) (ht : TableAt w t c) :
    Calls Tryd.prog 67 #[.pointer (some ⟨t, 0, none⟩), .int .u8 b] w fun e w' => e = .returned (.int .u8 ((gm c b : Nat) : Int)) ∧ ∃ m, w' = w.drewN m := by
  have c1 := ht (b % 16) (by omega)
  have c2 := ht (16 + b / 16) (by omega)
  have x1 := tabN_lt c (b % 16) hc
  have x2 := tabN_lt c (16 + b / 16) hc
  have hfin := times_eq c b hb
  have hand := and15 b hb
  have hxx := u8_xor _ _ x1 x2
  unfold tv at c1 c2
  rw [hfin] at hxx
  have hb' : (b : Int) < 256 := by omega
  clear ht hfin
  go_enter Tryd.func67, Tryd.ntmps67
  go_wp2
  go_quiet (fail)
  go_wp2
  go_ret
  exact ⟨rfl, _, rfl⟩
end Go.Proofs.YthhommjlomphdabDoor
/-
  A multiple of one row is added to another.
-/
namespace Go.Proofs.YthhommjlomphdabDoor
open Go.RowKit Go.Deep Gf

/-- the first k places from off on have had their multiples added -/
def addTo (g F : Nat → Nat) (c off k j : Nat) : Nat := if off ≤ j ∧ j < off + k then g j ^^^ gm c (F (j - off)) else g j
def AdR (w : World) (b t N off k c tb fb foff : Nat) (g F : Nat → Nat) (i : Value) (wr : World) : Prop :=
  ∃ j : Nat, j ≤ k ∧ i = .int .i64 j ∧ wr.rowIs b t N (tv (addTo g F c off j)) ∧ TableAt wr tb c ∧ (∀ i, i < k → wr.cell? ⟨fb, foff + i, none⟩ = some (.int .u8 ((F i : Nat) : Int))) ∧ w.grownBy wr (some b)
theorem addTo_step (g F : Nat → Nat) (c off j x : Nat) : tv (addTo g F c off (j + 1)) x = if x = off + j then .int .u8 ((g (off + j) ^^^ gm c (F j) : Nat) : Int) else tv (addTo g F c off j) x := by
  unfold tv addTo
  by_cases h : x = off + j
  · subst h
    rw [if_pos rfl, if_pos (by omega), Nat.add_sub_cancel_left]
  · rw [if_neg h]
    by_cases h2 : off ≤ x ∧ x < off + j
    · rw [if_pos h2, if_pos (by omega)]
    · rw [if_neg h2, if_neg (by omega)]
theorem addTo_zero (g F : Nat → Nat) (c off : Nat) : addTo g F c off 0 = g := by
  funext j; unfold addTo; rw [if_neg (by omega)]
theorem addTo_none (g F : Nat → Nat) (off k : Nat) : addTo g F 0 off k = g := by
  funext j; unfold addTo; rw [zero_gm, Nat.xor_zero]; split <;> rfl
theorem tableAt_set {w : World} {t c : Nat} (h : TableAt w t c) {a : Addr} (ha : t ≠ a.block) (v : Value) : TableAt (w.setCell a v) t c := fun j hj => by
  rw [← h j hj]; exact World.cell?_of_block (blk_setCell_other _ _ _ _ ha)
theorem wpList_tab (w : World) {ops : Array Oper} {rest : List Oper} {o : Oper} {a : Act} {Q : Exit → Act → World → Prop} (hgd : o.guard = none) (x y : Operand) (ho : o.op = .store 123 x y)
    (g c : Nat) (cs old : Array Value) (hx : a.eval x = .pointer (some ⟨g, 0, none⟩)) (hy : a.eval y = .agg cs) (hg : w.heap[g]? = some (.cells old 123 (0, 0))) (hold : old.size = 32) (hsz : cs.size = 32) (hget : ∀ j, j < 32 → cs[j]? = some (tv (tabN c) j))
    (hK : ∀ w2, TableAt w2 g c → w.grownBy w2 (some g) → wpList Tryd.prog ops Q rest (a.put o.dst undef) w2) : wpList Tryd.prog ops Q (o :: rest) a w := by
  refine wpList_store_row hgd 123 x y ho g cs hx hy 123 old hg (by rw [Tryd.infoTable, hsz]) (by omega) (one_cells hsz hget) (hK _ ?_ ?_)
  · intro j hj
    rw [cell_of_row _ g j cs 123 (0, 0) (setRow_heap w g old cs _ _ hg)]
    exact hget j hj
  · refine ⟨rfl, rfl, rfl, by simp, fun k hk hne => ?_⟩
    have : g ≠ k := fun e => hne (by rw [e])
    simp [World.setRow, Array.getElem?_modify, this]
set_option maxRecDepth 100000 in
set_option maxHeartbeats 4000000 in
theorem addTimes_some (b t N off n cap fb foff fcap c : Nat) (g F : Nat → Nat) (w : World) (hc : c < 256) (hr : w.rowIs b t N (tv g)) (hg : ∀ j, g j < 256) (hF : ∀ j, F j < 256) (hn : off + n ≤ N) (hcap : n ≤ 140737488355328)
    (hfc : ∀ i, i < n → w.cell? ⟨fb, foff + i, none⟩ = some (.int .u8 ((F i : Nat) : Int))) (hdis : fb ≠ b ∨ foff + n ≤ off ∨ off + n ≤ foff) :
    Calls Tryd.prog 62 #[.slice (some ⟨b, off, none⟩) n cap, .slice (some ⟨fb, foff, none⟩) n fcap, .int .u8 c] w fun e w' => e = .returned (.tuple #[]) ∧ w'.rowIs b t N (tv (addTo g F c off n)) ∧ w.grownBy w' (some b) := by
  by_cases h0 : c = 0
  · subst h0
    go_enter Tryd.func62, Tryd.ntmps62
    go_wp2
    exact bodyPost_ret (v := .tuple #[]) (by simp [results, Tryd.results62]) rfl ⟨rfl, by rw [addTo_none]; exact hr, World.grownBy.refl _ _⟩
  · have hc0 : ((c : Int) == 0) = false := by rw [beq_eq_false_iff_ne]; omega
    clear h0
    go_enter Tryd.func62, Tryd.ntmps62
    go_wp2_with fail
    refine (tableOf_any c hc _).mono ?_
    rintro e w1 ⟨cs, rfl, hsz, hget, hb1⟩
    have hs1 := hb1.size
    go_wp2_with (refine wpList_tab _ rfl (.tmp 6) (.tmp 11) rfl w1.heap.size c cs _ rfl rfl (heap_alloc_last w1 _) rfl hsz hget ?_; intro w2 hTb hg2)
    have hbl : b < w.heap.size := hr.lt
    have hW2 : w.grownBy w2 none := by
      refine ⟨hg2.os.trans hb1.os, hg2.tape.trans hb1.tape, hg2.output.trans hb1.output, ?_, fun k hk _ => ?_⟩
      · have := hg2.size; rw [nblk_alloc] at this; omega
      · rw [hg2.block k (by rw [nblk_alloc]; omega) (by intro e; simp at e; omega), blk_alloc_lt _ _ _ (by omega), hb1.block k hk]
    have hr2 : w2.rowIs b t N (tv g) := hr.of_block (hW2.block b hbl (by simp))
    have hf2 : ∀ i, i < n → w2.cell? ⟨fb, foff + i, none⟩ = some (.int .u8 ((F i : Nat) : Int)) := fun i hi => by
      have := hfc i hi
      exact hW2.cell this (by simp)
    have hw2 : w.grownBy w2 (some b) := ⟨hW2.os, hW2.tape, hW2.output, hW2.size, fun k hk _ => hW2.block k hk (by simp)⟩
    have htb : w1.heap.size ≠ b := by omega
    clear hg2 hW2 hr hfc hget hb1 hs1 hbl
    go_loopw [17] (fun i wr => AdR w b t N off n c w1.heap.size fb foff g F i wr) (fun i _ => n - (intOf i).toNat)
    case atStart => exact ⟨0, Nat.zero_le _, rfl, by rw [addTo_zero]; exact hr2, hTb, hf2, hw2⟩
    case round =>
      clear hTb hf2 hw2 hr2
      obtain ⟨j, hj, rfl, hrj, hTj, hfj, hgj⟩ := hrel
      by_cases hlt : j < n
      · have c1 := hrj.cell (i := off + j) (by omega)
        have f1 := hrj.frozen (off + j)
        have c2 := hfj j hlt
        have e1 : tv (addTo g F c off j) (off + j) = .int .u8 ((g (off + j) : Nat) : Int) := by unfold tv addTo; rw [if_neg (by omega)]
        rw [e1] at c1
        have hx := u8_xor (g (off + j)) (gm c (F j)) (hg _) (gm_lt _ hc)
        have hr3 := (hrj.set (off + j) (.int .u8 ((g (off + j) ^^^ gm c (F j) : Nat) : Int))).congr (fun x _ => (addTo_step g F c off j x).symm)
        have hT3 := tableAt_set hTj (a := ⟨b, off + j, none⟩) htb (.int .u8 ((g (off + j) ^^^ gm c (F j) : Nat) : Int))
        have hg3 := grown_set hgj (off + j) (.int .u8 ((g (off + j) ^^^ gm c (F j) : Nat) : Int))
        have hf3 : ∀ i, i < n → (wr.setCell ⟨b, off + j, none⟩ (.int .u8 ((g (off + j) ^^^ gm c (F j) : Nat) : Int))).cell? ⟨fb, foff + i, none⟩ = some (.int .u8 ((F i : Nat) : Int)) := fun i hi => by
          rw [← hfj i hi]
          by_cases hbb : fb = b
          · exact World.cell?_setCell_other _ _ _ _ (by intro e; have h1 : off + j = foff + i := congrArg Addr.off e; omega)
          · exact World.cell?_of_block (blk_setCell_other _ _ _ _ hbb)
        have hFj := hF j
        have HH := hide (And.intro hr3 (And.intro hT3 (And.intro hf3 hg3)))
        have HT := hide hTj
        generalize F j = y at c2 hx hFj HH
        generalize g (off + j) = x at c1 hx HH
        clear e1 hr3 hT3 hg3 hf3 hrj hTj hfj hgj hg hF
        go_wp2
        go_region_with ((go_at_call 67; refine (times_any w1.heap.size c y hc hFj _ (by exact fun j hj => HT.out j hj)).mono ?_; rintro e w' ⟨rfl, m, rfl⟩))
        all_goals
          go_wp2
          go_roundw
          case rel => exact ⟨j + 1, by omega, by go_num, HH.out.1, HH.out.2.1, HH.out.2.2.1, ⟨HH.out.2.2.2.os, HH.out.2.2.2.tape, HH.out.2.2.2.output, HH.out.2.2.2.size, HH.out.2.2.2.block⟩⟩
          case measure => simp [intOf]; omega
      · have hjn : j = n := by omega
        subst hjn
        clear hTj hfj
        go_wp2
        go_end0
        exact ⟨rfl, hrj, hgj⟩
end Go.Proofs.YthhommjlomphdabDoor
