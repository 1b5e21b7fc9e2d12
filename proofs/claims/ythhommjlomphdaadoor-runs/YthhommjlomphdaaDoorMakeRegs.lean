/-
  Registers are made: the program's.
-/
import Derived.Test.YthhommjlomphdaaDoorRunSpec
import Derived.Test.YthhommjlomphdaaDoorEncode
namespace Go.Proofs.YthhommjlomphdaaDoor
open Go.RowKit Go.Deep Gf

theorem regs0_succ (k n : Nat) : regs0 (k + 1) n = regs0 k n ++ [List.replicate n 0] := by
  unfold regs0
  rw [List.replicate_succ']
def MkR (w : World) (B g r n : Nat) (i : Value) (wr : World) : Prop :=
  ∃ k T, k ≤ r ∧ i = .int .i64 (k : Nat) ∧ Part wr B g r T ∧ Holds T n (regs0 k n) ∧ Below B w wr ∧ B ≤ wr.heap.size
def MkPost (r n : Nat) (w : World) (e : Ending) (w' : World) : Prop := ∃ g T, e = .returned (.slice (some ⟨g, 0, none⟩) r r) ∧ Tab w' w.heap.size (.slice (some ⟨g, 0, none⟩) r r) T ∧ Holds T n (regs0 r n) ∧ Below w.heap.size w w'
theorem holds_len {T : List (Nat × Nat × List Nat)} {D : Nat} {M : List (List Nat)} (h : Holds T D M) : T.length = M.length := by simpa using congrArg List.length h
set_option maxRecDepth 100000 in
set_option maxHeartbeats 2000000 in
theorem makeRegs_any (r n : Nat) (w : World) (hr : r ≤ 32) (hn : n ≤ 4096) :
    Calls Tryd.prog 66 #[.int .i64 r, .int .i64 n] w fun e w' => MkPost r n w e w' := by
  go_enter Tryd.func66, Tryd.ntmps66
  go_wp2_with (at_make; refine wpList_mkRows _ rfl (.tmp 7) (.tmp 7) rfl _ r rfl rfl rfl (by omega) ?_; intro wc hRow hbc hz; clear hz)
  have hP0 : Part wc w.heap.size w.heap.size r [] := ⟨hRow.congr (fun i _ => by simp [shv]), fun p hp => by simp at hp, by simp⟩
  have hsc := hbc.size
  clear hRow
  go_loopw [11] (fun i wr => MkR w w.heap.size w.heap.size r n i wr) (fun i _ => r - (intOf i).toNat)
  case atStart => exact ⟨0, [], Nat.zero_le _, rfl, hP0, rfl, hbc, hsc⟩
  case round =>
    clear hP0 hbc hsc
    rename World => wo
    obtain ⟨k, T, hk, rfl, hP, hH, hbo, hso⟩ := hrel
    have hTl := holds_len hH
    have hTk : T.length = k := by rw [hTl]; simp [regs0]
    by_cases hlt : k < r
    · have HH := hide hH
      have HTL := hide hTl
      clear hH hTl
      go_wp2_with (at_make; refine wpList_mk _ rfl (.tmp 16) (.tmp 16) rfl _ n rfl rfl rfl (by omega) ?_; intro w2 hB hb2 hz2
                   have hP2 := hP.below hb2
                   have hcS := hP2.tab.cell (i := k) hlt
                   have hfS := hP2.tab.frozen k)
      have hP3 := hP2.push (b := wo.heap.size) (n := n) (l := List.replicate n 0) (by omega) hB (by simp) (by simp; omega) (by intro x hx; have := List.eq_of_mem_replicate hx; omega) (fun p hp e => by have := (hP.row p hp).2.1.lt; omega)
      rw [hTk, List.length_replicate] at hP3
      refine ⟨⟨k + 1, _, by omega, by go_num, hP3, ?_, (hbo.trans (hb2.mono hso)).setCell (by simp) _, by simp; omega⟩, by simp [intOf]; omega⟩
      have hh := HH.out
      unfold Holds at hh ⊢
      rw [regs0_succ, List.map_append, List.map_append, hh]
      rfl
    · have hkk : k = r := by omega
      subst hkk
      have hT := hP.done (by omega) (Nat.le_refl _) (by unfold maxLen; omega)
      have HT := hide hT
      have HH := hide hH
      clear hT hH
      go_wp2
      go_ret
      exact ⟨_, T, rfl, HT.out, HH.out, hbo⟩
end Go.Proofs.YthhommjlomphdaaDoor
