/-
  The rows of the shards that are not lost: the program's kept.
-/
import Derived.Test.YthhommjlomphdaaKeepMath
import Derived.Test.YthhommjlomphdaaRooms
import Derived.Laws.BitsAllLaws
namespace Go.Proofs.Ythhommjlomphdaa
open Go.RowKit Go.Deep Gf

theorem bit_u64 (lost k : Nat) (hl : lost < 18446744073709551616) : bits .and .u64 ((lost : Int) / 2 ^ k) 1 = ((lost / 2 ^ k % 2 : Nat) : Int) := by
  have c : (lost : Int) / 2 ^ k = ((lost / 2 ^ k : Nat) : Int) := by simp
  have h : lost / 2 ^ k < 18446744073709551616 := Nat.lt_of_le_of_lt (Nat.div_le_self _ _) hl
  have e := u64_and_nat (lost / 2 ^ k) 1 h (by decide)
  rw [and1] at e
  rw [c]; exact e
/-- a list that the call made, of rows that were there before it -/
def Rl (w0 w : World) (v : Value) (K : List (List Nat)) : Prop :=
  ∃ xs : List Value, xs.length = K.length ∧ (∀ i (h : i < xs.length) (h' : i < K.length), Bs w0 xs[i] K[i]) ∧ w.ownsRow w0.heap.size 41 1 v xs.length xs ∧ Below w0.heap.size w0 w
theorem Rl.nil (w : World) : Rl w w (.slice none 0 0) [] := ⟨[], rfl, fun i h => absurd h (by simp), World.ownsRow_nil _ _ _ _, Below.refl _ _⟩
theorem Rl.rd {w0 w : World} {v : Value} {K : List (List Nat)} (h : Rl w0 w v K) (hl : K.length ≤ 100000) : Rd w v K := by
  obtain ⟨xs, hlen, hB, hown, hb⟩ := h
  rcases hown.2 with ⟨h0, h1⟩ | ⟨g, cap, cur, e1, e2, e3, e4, e5, e6, e7⟩
  · have : K = [] := List.eq_nil_of_length_eq_zero (by omega)
    subst this
    exact ⟨none, 0, h0, by simp, fun h => absurd rfl h⟩
  · refine ⟨some ⟨g, 0, none⟩, cap, by rw [e1, hlen], by omega, fun _ => ⟨g, 0, rfl, fun i hi => ?_⟩⟩
    have hix : i < xs.length := by omega
    have := hown.cells (g := g) (by rw [e1]; rfl) i xs[i] (by simp [hix])
    rw [add0] at this
    exact ⟨xs[i], by rw [Nat.zero_add]; exact this, (hB i hix hi).mono hb⟩
theorem Rl.push {w0 w w1 w2 : World} {v v' u : Value} {K : List (List Nat)} {l : List Nat} {o : Obj} {xs : List Value} (hlen : xs.length = K.length) (hB : ∀ i (h : i < xs.length) (h' : i < K.length), Bs w0 xs[i] K[i])
    (hown : w.ownsRow w0.heap.size 41 1 v xs.length xs) (hb : Below w0.heap.size w0 w) (hw : w1 = w.alloc o) (hu : Bs w0 u l)
    (hg : w1.grownBy w2 v.ownBlock) (hown' : w2.ownsRow w0.heap.size 41 1 v' (xs.length + 1) (xs ++ [u])) : Rl w0 w2 v' (K ++ [l]) := by
  subst hw
  refine ⟨xs ++ [u], by simp [hlen], fun i h h' => ?_, by simpa using hown', (hb.alloc hb.size o).grown hg (by rw [nblk_alloc]; have := hb.size; omega) fun k hk => (hown.lt k hk).1⟩
  by_cases hi : i < xs.length
  · rw [List.getElem_append_left hi, List.getElem_append_left (by omega)]
    exact hB i hi (by omega)
  · have e : i = xs.length := by simp at h; omega
    subst e
    rw [List.getElem_append_right (Nat.le_refl _), List.getElem_append_right (by omega)]
    simpa [hlen] using hu
theorem Bs.one {w : World} {u : Value} {l : List Nat} (h : Bs w u l) : u.oneCell' = true := by
  obtain ⟨ao, c, rfl, _⟩ := h
  rfl
def KpR (w : World) (M : List (List Nat)) (lost : Nat) (v i : Value) (wr : World) : Prop := ∃ k : Nat, k ≤ M.length ∧ i = .int .i64 k ∧ Rl w wr v (keepTo M lost k)
set_option maxRecDepth 100000 in
set_option maxHeartbeats 2000000 in
theorem kept_any (vm : Value) (M : List (List Nat)) (lost : Nat) (w : World) (hM : Rd w vm M) (hl : lost < 18446744073709551616) (hm : M.length ≤ 64) :
    Calls Try.prog 36 #[vm, .int .u64 lost] w fun e w' => ∃ v, e = .returned v ∧ Rl w w' v (keepTo M lost M.length) := by
  obtain ⟨i0, hi0, hz0, hz1, hz2⟩ := info_parts Try.infoBytes
  rcases hM.cases with ⟨rfl, ao, c, rfl⟩ | ⟨b, off, c, rfl, _, hc⟩
  · go_enter Try.func36, Try.ntmps36
    go_wp2
    refine wp_loop_rounds 1 ?_
    rw [rounds_succ]
    go_wp2
    go_ret
    exact ⟨_, rfl, Rl.nil _⟩
  · clear hM
    go_enter Try.func36, Try.ntmps36
    go_wp2
    go_loopw [5, 10] (fun v i wr => KpR w M lost v i wr) (fun _ i _ => M.length - (intOf i).toNat)
    case atStart => exact ⟨0, Nat.zero_le _, rfl, Rl.nil _⟩
    case round =>
      rename World => wo
      obtain ⟨k, hk, rfl, hR⟩ := hrel
      by_cases hlt : k < M.length
      · obtain ⟨u, hu, hB⟩ := hc k hlt
        have hu' : wo.cell? ⟨b, off + k, none⟩ = some u := by rw [hR.choose_spec.2.2.2.cell (block_lt_of_cell hu)]; exact hu
        obtain ⟨au, cu, rfl, _⟩ := id hB
        have hbit := bit_u64 lost k hl
        have HK := hide (keep_len M lost k)
        have HC := hide hc
        have HB := hide hB
        have HU := hide hu
        have hget : M.getD k [] = M[k] := by simp [hlt]
        have HGE := hide hget
        clear hc hB hu hget
        by_cases hz : lost / 2 ^ k % 2 = 0
        · rw [hz] at hbit
          have HKI := hide (keep_in M lost k hz)
          clear hz
          obtain ⟨xs, hlen, hX, hown, hbr⟩ := hR
          have HX := hide hX
          have HLN := hide hlen
          have hxl : xs.length ≤ 64 := by rw [hlen]; exact Nat.le_trans HK.out (by omega)
          have hs := hbr.size
          clear hX hlen
          go_wp2_with (at_builtin; refine wpList_append_own _ rfl (.tmp 20) (.tmp 22) 26 rfl w.heap.size 41 i0 (.slice none 0 0) 1 24 Try.underlying26 hi0 hz0 hz1 hz2 rfl (by decide) _ xs.length xs rfl (ownsRow_below hown ((Below.refl _ _).alloc (Nat.le_refl _) _)) ⟨wo.heap.size, 0, none⟩ 1 1 [.slice au (M[k]).length cu] rfl rfl (one_new _ _ rfl _ _) (by intro q hq; simp at hq; rw [hq]; exact HB.out.one) (by unfold maxLen; omega) (by omega) (by rw [nblk_alloc]; omega) ?_; intro v' w2 hown' hgrow hnn)
          have hR2 := Rl.push HLN.out HX.out hown hbr rfl HB.out hgrow hown'
          rw [← HGE.out, ← HKI.out] at hR2
          clear hown hown' hgrow hnn hbr hu'
          go_wp2
          go_roundw
          case rel => exact ⟨k + 1, by omega, by go_num, hR2⟩
          case measure => simp [intOf]; omega
        · have h1 : lost / 2 ^ k % 2 = 1 := by omega
          rw [h1] at hbit
          have HKO := hide (keep_out M lost k hz)
          clear hz h1
          have HR := hide hR
          clear hR
          go_wp2
          go_roundw
          case rel => exact ⟨k + 1, by omega, by go_num, by rw [HKO.out]; exact HR.out⟩
          case measure => simp [intOf]; omega
      · have hkk : k = M.length := by omega
        rw [hkk] at hR
        clear hc hkk
        go_wp2
        go_ret
        exact ⟨_, rfl, hR⟩
end Go.Proofs.Ythhommjlomphdaa
