/-
  Tables of products, and rows that are added to rows.
-/
import Derived.Test.YtihmeebhckcepaaDoorSame
import Derived.Test.YtihmeebhckcepaaDoorFieldWalks
import Derived.Laws.Tables
import Derived.Laws.CopyOwn
namespace Go.Proofs.YtihmeebhckcepaaDoor
open Go.RowKit Go.Deep Gf

/-- what a table holds, when k rounds are done; all of it -/
def tabTo (c k j : Nat) : Nat := if j < 16 then (if j < k then gm c j else 0) else (if j - 16 < k then gm c ((j - 16) * 16) else 0)
def tabN (c j : Nat) : Nat := if j < 16 then gm c j else gm c ((j - 16) * 16)
def tv (f : Nat → Nat) (j : Nat) : Value := .int .u8 ((f j : Nat) : Int)
def TabR (w : World) (B c : Nat) (i : Value) (wr : World) : Prop :=
  ∃ k : Nat, k ≤ 16 ∧ i = .int .i64 k ∧ wr.rowIs (B + 1) 132 32 (tv (tabTo c k)) ∧ wr.rowIs B 132 32 (fun _ => .int .u8 0) ∧ Below B w wr
theorem mul_eq {x y : Int} (a b : Nat) (hx : x = (a : Int)) (hy : y = (b : Int)) (ha : a < 256) (hb : b < 256) (w : World) :
    Calls Tryd.prog 74 #[.int .u8 x, .int .u8 y] w fun e w' => e = .returned (.int .u8 ((gm a b : Nat) : Int)) ∧ w' = w := by
  subst hx hy; exact mul_any a b ha hb w
theorem zero32 (w : World) : (w.alloc (.cells (Array.replicate 32 (.int .u8 0)) 132)).rowIs w.heap.size 132 32 (fun _ => .int .u8 0) := by
  have h := World.rowIs_alloc w (Array.replicate 32 (.int .u8 0)) 132 (fun _ => .int .u8 0) (fun i hi => by simp at hi; simp [hi])
  simpa using h
theorem tabTo_step (c k : Nat) (hk : k < 16) (j : Nat) : tv (tabTo c (k + 1)) j = if j = 16 + k then .int .u8 ((gm c (k * 16) : Nat) : Int) else if j = k then .int .u8 ((gm c k : Nat) : Int) else tv (tabTo c k) j := by
  unfold tv tabTo
  by_cases h1 : j = 16 + k
  · subst h1
    rw [if_pos rfl, if_neg (by omega), if_pos (by omega), Nat.add_sub_cancel_left]
  · rw [if_neg h1]
    by_cases h2 : j = k
    · subst h2
      rw [if_pos rfl, if_pos hk, if_pos (by omega)]
    · rw [if_neg h2]
      by_cases h3 : j < 16
      · rw [if_pos h3, if_pos h3]
        by_cases h4 : j < k
        · rw [if_pos h4, if_pos (by omega)]
        · rw [if_neg h4, if_neg (by omega)]
      · rw [if_neg h3, if_neg h3]
        by_cases h4 : j - 16 < k
        · rw [if_pos h4, if_pos (by omega)]
        · rw [if_neg h4, if_neg (by omega)]
theorem tabTo_end (c j : Nat) (hj : j < 32) : tv (tabTo c 16) j = tv (tabN c) j := by
  unfold tv tabTo tabN
  by_cases h : j < 16
  · rw [if_pos h, if_pos h, if_pos h]
  · rw [if_neg h, if_neg h, if_pos (by omega)]
theorem one_cells {cs : Array Value} {f : Nat → Nat} (hs : cs.size = 32) (h : ∀ j, j < 32 → cs[j]? = some (tv f j)) : cs.all (fun v => v.oneCell') = true := by
  rw [Array.all_eq_true]
  intro i hi
  have := h i (by omega)
  rw [Array.getElem?_eq_getElem hi] at this
  simp at this
  rw [this]; rfl
theorem Tryd.infoTable : (Tryd.prog.info? 132).map (fun i => i.size) = some 32 := by kernel_rfl
set_option maxRecDepth 100000 in
set_option maxHeartbeats 4000000 in
theorem tableOf_any (c : Nat) (hc : c < 256) (w : World) :
    Calls Tryd.prog 70 #[.int .u8 c] w fun e w' => ∃ cs : Array Value, e = .returned (.agg cs) ∧ cs.size = 32 ∧ (∀ j, j < 32 → cs[j]? = some (tv (tabN c) j)) ∧ Below w.heap.size w w' := by
  go_enter Tryd.func70, Tryd.ntmps70
  go_wp2
  go_loopw [5] (fun i wr => TabR w w.heap.size c i wr) (fun i _ => 16 - (intOf i).toNat)
  case atStart =>
    refine ⟨0, by decide, rfl, ?_, ?_, ?_⟩
    · have h := zero32 (w.alloc (.cells (Array.replicate 32 (.int .u8 0)) 132))
      rw [nblk_alloc] at h
      exact h.congr fun j hj => by unfold tv tabTo; simp
    · exact (zero32 w).alloc _
    · exact ((Below.refl _ _).alloc (Nat.le_refl _) _).alloc (by rw [nblk_alloc]; omega) _
  case round =>
    obtain ⟨k, hk, rfl, hR, hZ, hb⟩ := hrel
    by_cases hlt : k < 16
    · have c1 := hR.cell (i := k) (by omega)
      have c2 := hR.cell (i := 16 + k) (by omega)
      have f1 := hR.frozen k
      have f2 := hR.frozen (16 + k)
      have hR2 := ((hR.set k (.int .u8 ((gm c k : Nat) : Int))).set (16 + k) (.int .u8 ((gm c (k * 16) : Nat) : Int))).congr (fun j hj => (tabTo_step c k hlt j).symm)
      have hZ2 := (hZ.setOther (a := ⟨w.heap.size + 1, k, none⟩) (by simp) (.int .u8 ((gm c k : Nat) : Int))).setOther (a := ⟨w.heap.size + 1, 16 + k, none⟩) (by simp) (.int .u8 ((gm c (k * 16) : Nat) : Int))
      have hb2 := (hb.setCell (p := ⟨w.heap.size + 1, k, none⟩) (by simp) (.int .u8 ((gm c k : Nat) : Int))).setCell (p := ⟨w.heap.size + 1, 16 + k, none⟩) (by simp) (.int .u8 ((gm c (k * 16) : Nat) : Int))
      have HH := hide (And.intro hR2 (And.intro hZ2 hb2))
      clear hR2 hZ2 hb2 hR hZ hb
      unfold tv at c1 c2
      go_wp2_with fail
      refine (mul_eq c k rfl rfl hc (by omega) _).mono ?_
      rintro e w' ⟨rfl, rfl⟩
      go_wp2_with fail
      refine (mul_eq c (k * 16) rfl (by omega) hc (by omega) _).mono ?_
      rintro e w' ⟨rfl, rfl⟩
      go_wp2
      go_roundw
      case rel => exact ⟨k + 1, by omega, by go_num, HH.out.1, HH.out.2.1, HH.out.2.2⟩
      case measure => simp [intOf]; omega
    · have hk16 : k = 16 := by omega
      subst hk16
      have hR2 := hR.congr (fun j hj => tabTo_end c j hj)
      obtain ⟨cs, hcs, hsz, hget⟩ := hR2
      obtain ⟨zs, hzs, hzz, _⟩ := hZ
      have h1 := one_cells hsz hget
      have HG := hide hget
      have hi : (Tryd.prog.info? 132).map (fun i => i.size) = some cs.size := by rw [Tryd.infoTable, hsz]
      have HI := hide hi
      have HC := hide hcs
      have HZ := hide hzs
      clear hget hR hi hcs hzs
      go_wp2_with (first
        | refine wpList_load_row rfl 132 (.tmp 3) rfl (w.heap.size + 1) rfl 132 cs (0, 0) _ HC.out Tryd.underlying132 rfl HI.out ?_
        | refine wpList_store_row rfl 132 (.tmp 2) (.tmp 24) rfl w.heap.size cs rfl rfl 132 zs HZ.out HI.out (by omega) h1 ?_)
      exact bodyPost_ret (v := .agg cs) (results_cell_row Tryd.results70 _ _ w.heap.size 132 cs (0, 0) _ rfl (setRow_heap _ _ zs cs _ _ HZ.out) Tryd.underlying132 rfl HI.out) rfl ⟨cs, rfl, hsz, HG.out, below_setRow hb (Nat.le_refl _) cs⟩

/-- a table in memory -/
def TableAt (w : World) (t c : Nat) : Prop := ∀ j, j < 32 → w.cell? ⟨t, j, none⟩ = some (tv (tabN c) j)
theorem split16 : ∀ b, b < 256 → b = (b % 16) ^^^ (b / 16 * 16) := by decide +kernel
theorem times_eq (c b : Nat) (hb : b < 256) : tabN c (b % 16) ^^^ tabN c (16 + b / 16) = gm c b := by
  unfold tabN
  rw [if_pos (by omega), if_neg (by omega), Nat.add_sub_cancel_left, ← gm_add, ← split16 b hb]
theorem tabN_lt (c j : Nat) (hc : c < 256) : tabN c j < 256 := by
  unfold tabN; split <;> exact gm_lt _ hc
theorem and15 (b : Nat) (hb : b < 256) : bits .and .u8 (b : Int) 15 = ((b % 16 : Nat) : Int) := by
  rw [u8_and15 _ (by omega) (by omega)]; rfl
set_option maxRecDepth 100000 in
set_option maxHeartbeats 4000000 in
theorem times_any (t c b : Nat) (hc : c < 256) (hb : b < 256) (w : World) (ht : TableAt w t c) :
    Calls Tryd.prog 71 #[.pointer (some ⟨t, 0, none⟩), .int .u8 b] w fun e w' => e = .returned (.int .u8 ((gm c b : Nat) : Int)) ∧ ∃ m, w' = w.drewN m := by
  have c1 := ht (b % 16) (by omega)
  have c2 := ht (16 + b / 16) (by omega)
  have x1 := tabN_lt c (b % 16) hc
  have x2 := tabN_lt c (16 + b / 16) hc
  have hfin := times_eq c b hb
  have hand := and15 b hb
  have hxx := u8_xor _ _ x1 x2
  unfold tv at c1 c2
  rw [hfin] at hxx
  have hb' : (b : Int) < 256 := by omega
  clear ht hfin
  go_enter Tryd.func71, Tryd.ntmps71
  go_wp2
  go_quiet (fail)
  go_wp2
  go_ret
  exact ⟨rfl, _, rfl⟩
end Go.Proofs.YtihmeebhckcepaaDoor
