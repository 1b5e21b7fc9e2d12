/-
  Checks in memory: a spare one that has a shard; whether a shard is read.
-/
import Derived.Test.YtbgiechfhfeaeabDoorAddMid
import Derived.Test.YtbgiechfhfeaeabDoorSearchMath
namespace Go.Proofs.YtbgiechfhfeaeabDoor
open Go.RowKit Go.Deep Gf

/-- what the cells of checks hold -/
def ckV (C : Ck) (k : Nat) : Value := if k < 128 then .int .u8 ((C.m (k / 16) (k % 16) : Nat) : Int) else if k = 128 then .int .i64 (C.told : Int) else .int .i64 (C.count : Int)
def CkAt (w : World) (b : Nat) (C : Ck) : Prop := w.rowIs b 69 130 (ckV C)
/-- checks that have room -/
structure CkFit (C : Ck) : Prop where
  byt : Byt C
  le : C.told ≤ C.count
  most : C.count ≤ 8
theorem CkAt.at {w : World} {b : Nat} {C : Ck} (h : CkAt w b C) (r i : Nat) (hr : r < 8) (hi : i < 16) : w.cell? ⟨b, r * 16 + i, none⟩ = some (.int .u8 ((C.m r i : Nat) : Int)) := by
  have := h.cell (i := r * 16 + i) (by omega)
  rw [this]; unfold ckV
  rw [if_pos (by omega), show (r * 16 + i) / 16 = r by omega, show (r * 16 + i) % 16 = i by omega]
theorem CkAt.toldC {w : World} {b : Nat} {C : Ck} (h : CkAt w b C) : w.cell? ⟨b, 128, none⟩ = some (.int .i64 (C.told : Int)) := h.cell (i := 128) (by decide)
theorem CkAt.countC {w : World} {b : Nat} {C : Ck} (h : CkAt w b C) : w.cell? ⟨b, 129, none⟩ = some (.int .i64 (C.count : Int)) := h.cell (i := 129) (by decide)
def CkSp (C : Ck) (i : Nat) (wo : World) (v : Value) (wr : World) : Prop := ∃ r : Nat, v = .int .i64 r ∧ C.told ≤ r ∧ r ≤ C.count ∧ (∀ k, C.told ≤ k → k < r → C.m k i = 0) ∧ wr = wo
/-- what spare answers -/
def spV : Option Nat → Value
  | some r => .tuple #[.int .i64 (r : Int), .bool true]
  | none => .tuple #[.int .i64 0, .bool false]
set_option maxRecDepth 100000 in
set_option maxHeartbeats 4000000 in
theorem spare_any (b i : Nat) (C : Ck) (w : World) (hC : CkAt w b C) (hf : CkFit C) (hi : i < 16) :
    Calls Tryd.prog 45 #[.pointer (some ⟨b, 0, none⟩), .int .i64 i] w fun e w' => e = .returned (spV (spareAt C i)) ∧ w' = w := by
  have ct := hC.toldC
  have cc := hC.countC
  have h1 := hf.le
  have h2 := hf.most
  have hi' : (i : Int) < 16 := by omega
  go_enter Tryd.func45, Tryd.ntmps45
  go_wp2
  go_loopw [6] (fun v wr => CkSp C i w v wr) (fun v _ => C.count - (intOf v).toNat)
  case atStart => exact ⟨C.told, rfl, Nat.le_refl _, h1, fun k a b => absurd b (by omega), rfl⟩
  case round =>
    obtain ⟨r, rfl, r1, r2, hz, rfl⟩ := hrel
    by_cases hlt : r < C.count
    · have c1 := hC.at r i (by omega) hi
      have hb := hf.byt r i
      have HZ := hide hz
      clear hz
      have hlt' : (r : Int) < C.count := by omega
      have hr8 : (r : Int) < 8 := by omega
      by_cases h0 : C.m r i = 0
      · rw [h0] at c1
        go_wp2
        go_roundw
        case rel => exact ⟨r + 1, by go_num, by omega, by omega, fun k a b => by
          by_cases e : k = r
          · rw [e]; exact h0
          · exact HZ.out k a (by omega), rfl⟩
        case measure => simp [intOf]; omega
      · have hne : ((C.m r i : Nat) : Int) ≠ 0 := by omega
        have hs := spareAt_first r1 hlt h0 HZ.out
        have HS := hide hs
        clear hs h0
        go_wp2
        refine bodyPost_ret (v := .tuple #[.int .i64 (r : Int), .bool true]) (by simp [results, Tryd.results45]) rfl ?_
        rw [HS.out]
        exact ⟨rfl, rfl⟩
    · have hlt' : ¬ (r : Int) < C.count := by omega
      have hs := spareAt_never (C := C) (i := i) (fun k a b => hz k a (by omega))
      have HS := hide hs
      clear hs hz
      go_wp2
      refine bodyPost_ret (v := .tuple #[.int .i64 0, .bool false]) (by simp [results, Tryd.results45]) rfl ?_
      rw [HS.out]
      exact ⟨rfl, rfl⟩
def RdR (C : Ck) (i : Nat) (wo : World) (v : Value) (wr : World) : Prop := ∃ r : Nat, v = .int .i64 r ∧ r ≤ C.told ∧ (∀ k, k < r → C.m k i = 0) ∧ wr = wo
set_option maxRecDepth 100000 in
set_option maxHeartbeats 4000000 in
theorem reads_any (b i : Nat) (C : Ck) (w : World) (hC : CkAt w b C) (hf : CkFit C) (hi : i < 16) :
    Calls Tryd.prog 49 #[.pointer (some ⟨b, 0, none⟩), .int .i64 i] w fun e w' => e = .returned (.bool (readsB C i)) ∧ w' = w := by
  have ct := hC.toldC
  have h1 := hf.le
  have h2 := hf.most
  have hi' : (i : Int) < 16 := by omega
  go_enter Tryd.func49, Tryd.ntmps49
  go_wp2
  go_loopw [10] (fun v wr => RdR C i w v wr) (fun v _ => C.told - (intOf v).toNat)
  case atStart => exact ⟨0, rfl, Nat.zero_le _, fun k h => absurd h (by omega), rfl⟩
  case round =>
    obtain ⟨r, rfl, r2, hz, rfl⟩ := hrel
    by_cases hlt : r < C.told
    · have c1 := hC.at r i (by omega) hi
      have hb := hf.byt r i
      have HZ := hide hz
      clear hz
      have hlt' : (r : Int) < C.told := by omega
      have hr8 : (r : Int) < 8 := by omega
      by_cases h0 : C.m r i = 0
      · rw [h0] at c1
        go_wp2
        go_roundw
        case rel => exact ⟨r + 1, by go_num, by omega, fun k b => by
          by_cases e : k = r
          · rw [e]; exact h0
          · exact HZ.out k (by omega), rfl⟩
        case measure => simp [intOf]; omega
      · have hne : ((C.m r i : Nat) : Int) ≠ 0 := by omega
        have hs := readsB_true hlt h0
        have HS := hide hs
        clear hs h0
        go_wp2
        go_ret
        rw [HS.out]
        exact ⟨rfl, rfl⟩
    · have hlt' : ¬ (r : Int) < C.told := by omega
      have hs := (readsB_false (C := C) (i := i)).2 (fun k a => hz k (by omega))
      have HS := hide hs
      clear hs hz
      go_wp2
      go_ret
      rw [HS.out]
      exact ⟨rfl, rfl⟩
end Go.Proofs.YtbgiechfhfeaeabDoor
