/-
  Rows are laid side by side.
-/
import Derived.Test.YthhommjlomphdaaRankProg
namespace Go.Proofs.Ythhommjlomphdaa
open Go.RowKit Go.Deep Gf

def gridOf (D : List (List Nat)) (x : Nat) : Nat := (D.getD (x / 64) []).getD (x % 64) 0
def gridTo (D : List (List Nat)) (k x : Nat) : Nat := if x / 64 < k then gridOf D x else 0
theorem Try.infoGrid : (Try.prog.info? 50).map (fun i => (i.zero, i.size, i.bytes)) = some (some (.agg (Array.replicate 4096 (.int .u8 0))), 4096, 4096) := by kernel_rfl
theorem Try.sizeGrid : (Try.prog.info? 50).map (fun i => i.size) = some 4096 := by kernel_rfl
theorem zeroGrid (w : World) : (zeroValue 50).run Try.prog w = .ok (.agg (Array.replicate 4096 (.int .u8 0))) w := by
  obtain ⟨i0, hi0, hz0, _, _⟩ := info_parts Try.infoGrid
  simp [zeroValue, typeInfo, Sem.run_bind, hi0, hz0]
theorem zero4096 (w : World) : (w.alloc (.cells (Array.replicate 4096 (.int .u8 0)) 50)).rowIs w.heap.size 50 4096 (fun _ => .int .u8 0) := by
  have h := World.rowIs_alloc w (Array.replicate 4096 (.int .u8 0)) 50 (fun _ => .int .u8 0) (fun i hi => by simp at hi; simp [hi])
  simpa using h
theorem row_heap {w : World} {b t n : Nat} {f : Nat → Value} (h : w.rowIs b t n f) : w.heap[b]? = some (.cells ((List.range n).map f).toArray t (0, 0)) := by
  obtain ⟨c, hc, hs, hg⟩ := h
  have : c = ((List.range n).map f).toArray := by
    apply Array.ext
    · simp [hs]
    · intro i h1 h2
      have := hg i (by omega)
      rw [Array.getElem?_eq_getElem h1] at this
      simp at this
      simp [this]
  rw [← this]; exact hc
/-- copy into the middle of a block -/
theorem wpList_cpg {w : World} {ops : Array Oper} {rest : List Oper} {o : Oper} {a : Act} {Q : Exit → Act → World → Prop} (hgd : o.guard = none) (d s : Operand)
    (ho : o.op = .call { callee := .builtin .copy, args := #[d, s], argTypes := #[41, 41] }) (g off n cap N t : Nat) (v : Value) (hd : a.eval d = .slice (some ⟨g, off, none⟩) n cap) (hs : a.eval s = v)
    (F : Nat → Nat) (src : List Nat) (hB : w.rowIs g t N (tv F)) (hS : Bs w v src) (hle : src.length ≤ n) (hn : off + n ≤ N)
    (h : ∀ w', w'.rowIs g t N (tv (fun x => if off ≤ x ∧ x < off + src.length then src.getD (x - off) 0 else F x)) → Below g w w' → wpList Try.prog ops Q rest (a.put o.dst (goInt src.length)) w') : wpList Try.prog ops Q (o :: rest) a w := by
  obtain ⟨ao, c, rfl, h1, h2, h3, h4⟩ := hS
  refine wpList_copy_splice hgd d s 41 41 ho 5 Try.underlying41 (by kernel_rfl) (some ⟨g, off, none⟩) ao n cap src.length c hd hs g off _ t (row_heap hB) (src.map (fun x => Value.int .u8 ((x : Nat) : Int))) ?_ ?_ ?_ ?_ g w (Below.refl _ _) (Nat.le_refl _) ?_
  · rw [List.length_map]
    show src.length = min src.length n
    omega
  · intro hp
    rw [List.length_map] at hp
    obtain ⟨b, off, rfl, hc⟩ := h4 (by intro e; rw [e] at hp; simp at hp)
    refine ⟨rfl, _, rfl, fun j u hj => ?_⟩
    have hjl : j < src.length := by
      have := List.getElem?_eq_some_iff.1 hj
      obtain ⟨q, _⟩ := this
      simpa using q
    rw [Addr.add_mid, hc j hjl]
    simp [hjl] at hj
    simp [hjl, hj]
  · simp; omega
  · intro u hu
    obtain ⟨x, _, rfl⟩ := List.mem_map.1 hu
    rfl
  · intro w' hw' hb'
    have hw := hw'.out
    rw [List.length_map]
    refine h w' ⟨_, hw, ?_, fun i hi => ?_⟩ hb'
    · rw [List.size_toArray, length_splice _ _ _ (by simp; omega)]; simp
    · unfold splice
      rw [List.getElem?_toArray]
      by_cases q1 : i < off
      · rw [List.getElem?_append_left (by simp; omega)]
        have q0 : ¬ (off ≤ i ∧ i < off + src.length) := by omega
        simp only [tv, if_neg q0]
        simp [q1, hi, tv]
      · rw [List.getElem?_append_right (by simp; omega)]
        have e0 : (((List.range N).map (tv F)).take off).length = off := by simp; omega
        rw [e0]
        by_cases q2 : i < off + src.length
        · rw [List.getElem?_append_left (by simp; omega)]
          have q3 : i - off < src.length := by omega
          simp [q3, tv, q2, Nat.not_lt.1 q1]
        · rw [List.getElem?_append_right (by simp; omega)]
          simp only [List.length_map]
          rw [List.getElem?_drop]
          have e1 : off + src.length + (i - off - src.length) = i := by omega
          rw [e1]
          simp [hi, tv, q2]
def LyR (w : World) (B : Nat) (D : List (List Nat)) (i : Value) (wr : World) : Prop :=
  ∃ k : Nat, k ≤ D.length ∧ i = .int .i64 (k : Nat) ∧ wr.rowIs (B + 1) 50 4096 (tv (gridTo D k)) ∧ wr.rowIs B 50 4096 (fun _ => .int .u8 0) ∧ Below B w wr
theorem gridTo_step (D : List (List Nat)) (k : Nat) (hk : k < D.length) (hl : (D[k]).length ≤ 64) : (fun x => if k * 64 ≤ x ∧ x < k * 64 + (D[k]).length then (D[k]).getD (x - k * 64) 0 else gridTo D k x) = gridTo D (k + 1) := by
  have hg : D.getD k [] = D[k] := by simp [hk]
  funext x
  unfold gridTo gridOf
  by_cases h : k * 64 ≤ x ∧ x < k * 64 + (D[k]).length
  · rw [if_pos h, if_pos (by omega)]
    have e1 : x / 64 = k := by omega
    have e2 : x % 64 = x - k * 64 := by omega
    rw [e1, hg, e2]
  · rw [if_neg h]
    by_cases h2 : x / 64 < k
    · rw [if_pos h2, if_pos (by omega)]
    · rw [if_neg h2]
      by_cases h3 : x / 64 = k
      · rw [if_pos (by omega), h3, hg, List.getD_eq_getElem?_getD, List.getElem?_eq_none (by omega)]; rfl
      · rw [if_neg (by omega)]
theorem gridTo_end (D : List (List Nat)) (x : Nat) : gridTo D D.length x = gridOf D x := by
  unfold gridTo
  by_cases h : x / 64 < D.length
  · rw [if_pos h]
  · rw [if_neg h]
    unfold gridOf
    simp [List.getElem?_eq_none (Nat.not_lt.1 h)]
theorem one_cells2 {cs : Array Value} {N : Nat} {f : Nat → Nat} (hs : cs.size = N) (h : ∀ j, j < N → cs[j]? = some (tv f j)) : cs.all (fun v => v.oneCell') = true := by
  rw [Array.all_eq_true]
  intro i hi
  have := h i (by omega)
  rw [Array.getElem?_eq_getElem hi] at this
  simp at this
  rw [this]; rfl
set_option maxRecDepth 100000 in
set_option maxHeartbeats 4000000 in
theorem lay_any (vd : Value) (D : List (List Nat)) (w : World) (hd : Rd w vd D) (hf : FitG D) :
    Calls Try.prog 32 #[vd] w fun e w' => ∃ cs : Array Value, e = .returned (.agg cs) ∧ cs.size = 4096 ∧ (∀ j, j < 4096 → cs[j]? = some (tv (gridOf D) j)) ∧ Below w.heap.size w w' := by
  have HF := hide hf
  have hl64 := hf.1
  have hds := hd
  obtain ⟨ao, c, rfl, hl, hc⟩ := hd
  have HC := hide hc
  clear hc hf hds
  have hzg := zeroGrid
  go_enter Try.func32, Try.ntmps32
  go_wp2
  clear hzg
  go_loopw [8] (fun i wr => LyR w w.heap.size D i wr) (fun i _ => D.length - (intOf i).toNat)
  case atStart =>
    refine ⟨0, Nat.zero_le _, rfl, ?_, ?_, ?_⟩
    · have h := zero4096 (w.alloc (.cells (Array.replicate 4096 (.int .u8 0)) 50))
      rw [nblk_alloc] at h
      exact h.congr fun j hj => by unfold tv gridTo; simp
    · exact (zero4096 w).alloc _
    · exact ((Below.refl _ _).alloc (Nat.le_refl _) _).alloc (by rw [nblk_alloc]; omega) _
  case round =>
    rename World => wo
    obtain ⟨k, hk, rfl, hR, hZ, hb⟩ := hrel
    by_cases hlt : k < D.length
    · obtain ⟨b, off, rfl, hcc⟩ := HC.out (by intro e; rw [e] at hlt; simp at hlt)
      obtain ⟨u, hu, hBs⟩ := hcc k hlt
      have hBo := hBs.mono hb
      have hlk := HF.out.2 k hlt
      have hst := gridTo_step D k hlt hlk
      have hu' : wo.cell? ⟨b, off + k, none⟩ = some u := by rw [hb.cell (block_lt_of_cell hu)]; exact hu
      have HST := hide hst
      clear hcc hst hu hBs HC
      generalize D[k] = l at *
      go_wp2_with (refine wpList_cpg rfl (.tmp 15) (.tmp 16) rfl (w.heap.size + 1) (k * 64) 64 64 4096 50 u rfl rfl (gridTo D k) l hR hBo hlk (by omega) ?_; intro w2 hR2 hb2)
      rw [HST.out] at hR2
      have hZ2 := World.rowIs.of_block hZ (hb2.block w.heap.size (by omega))
      go_wp2
      go_roundw
      case rel => exact ⟨k + 1, by omega, by go_num, hR2, hZ2, hb.trans (hb2.mono (by omega))⟩
      case measure => simp [intOf]; omega
    · have hkk : k = D.length := by omega
      rw [hkk] at hR
      clear hkk
      have hR2 := hR.congr (g := tv (gridOf D)) (fun j hj => by unfold tv; rw [gridTo_end])
      obtain ⟨cs, hcs, hsz, hget⟩ := hR2
      obtain ⟨zs, hzs, hzz, _⟩ := hZ
      have h1 := one_cells2 hsz hget
      have HG := hide hget
      have hi : (Try.prog.info? 50).map (fun i => i.size) = some cs.size := by rw [Try.sizeGrid, hsz]
      have HI := hide hi
      have HCC := hide hcs
      have HZ := hide hzs
      clear hget hR hi hcs hzs
      go_wp2_with (first
        | refine wpList_load_row rfl 50 (.tmp 3) rfl (w.heap.size + 1) rfl 50 cs (0, 0) _ HCC.out Try.underlying50 rfl HI.out ?_
        | refine wpList_store_row rfl 50 (.tmp 2) (.tmp 19) rfl w.heap.size cs rfl rfl 50 zs HZ.out HI.out (by omega) h1 ?_)
      exact bodyPost_ret (v := .agg cs) (results_cell_row Try.results32 _ _ w.heap.size 50 cs (0, 0) _ rfl (setRow_heap _ _ zs cs _ _ HZ.out) Try.underlying50 rfl HI.out) rfl ⟨cs, rfl, hsz, HG.out, below_setRow hb (Nat.le_refl _) cs⟩
end Go.Proofs.Ythhommjlomphdaa
