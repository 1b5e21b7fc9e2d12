/-
  How many bytes the loaded shards have: the program's word.
-/
import Derived.Test.YthhommjlomphdaaDoorRunSpec
import Derived.Lib.SliceRun
namespace Go.Proofs.YthhommjlomphdaaDoor
open Go.RowKit Go.Deep

def LlR (w : World) (P : List St) (D : List (List Nat)) (gone : Nat) (lv sv iv : Value) (wr : World) : Prop :=
  ∃ k : Nat, k ≤ P.length ∧ iv = .int .i64 k ∧ lv = .int .i64 ((fl P D k).getD 0 : Nat) ∧ sv = .bool (fl P D k).isSome ∧ (∀ i, i < k → ldOk P D gone i) ∧ Below w.heap.size w wr
def LlPost (P : List St) (D : List (List Nat)) (gone : Nat) (w : World) (r : Ending) (w' : World) : Prop :=
  (ldsOk P D gone → r = .returned (.tuple #[.int .i64 (runLen P D : Nat), .nilIface])) ∧ (¬ ldsOk P D gone → r = .returned (.tuple #[.int .i64 0, .iface 29 (.int .i64 2)])) ∧ Below w.heap.size w w'
set_option maxRecDepth 100000 in
set_option maxHeartbeats 4000000 in
theorem loadedLength_any (v : Value) (P : List St) (bi ci : Nat) (D : List (List Nat)) (gone : Nat) (w : World) (h : Ps .u8 w v P) (hI : In w bi D gone) (hlen : ∀ l ∈ D, l.length ≤ 100000)
    (hr : ∀ i, i < P.length → (stAt P i).k = 0 → 0 ≤ (stAt P i).b ∧ (stAt P i).b < (D.length : Int)) (hl : P.length ≤ 5000) :
    Calls Tryd.prog 65 #[v, .slice (some ⟨bi, 0, none⟩) D.length ci] w fun r w' => LlPost P D gone w r w' := by
  obtain ⟨ao, c, rfl⟩ := h.slice
  go_enter Tryd.func65, Tryd.ntmps65
  go_wp2
  go_loopw [6, 7, 13] (fun lv sv iv wr => LlR w P D gone lv sv iv wr) (fun _ _ iv _ => P.length - (intOf iv).toNat)
  case atStart => exact ⟨0, Nat.zero_le _, rfl, rfl, rfl, fun i hi => absurd hi (by omega), Below.refl _ _⟩
  case round =>
    rename World => wo
    obtain ⟨k, hk, rfl, rfl, rfl, hok, hbo⟩ := hrel
    have hso := hbo.size
    by_cases hlt : k < P.length
    · rcases (h.mono hbo).cases with ⟨rfl, _⟩ | ⟨b, off, cc, e, _, hc⟩
      · simp at hlt
      simp at e
      obtain ⟨rfl, rfl⟩ := e
      obtain ⟨d0, d1, d2, d3⟩ := hc k hlt
      have hst := stAt_get P k hlt
      have hrk := hr k hlt
      have HOK := hide hok
      have HFS := hide (fl_some P D k)
      have HFL := hide (fl_load P D k)
      have HFO := hide (fl_other P D k)
      have HLD : Hid (ldOk P D gone k ↔ ((stAt P k).k = 0 → ¬ goneB gone (stAt P k).b.toNat ∧ fl P D (k + 1) = some (D.getD (stAt P k).b.toNat []).length ∧ (D.getD (stAt P k).b.toNat []).length ≤ 4096)) := Iff.rfl
      rw [hst] at hrk HFL HFO HLD
      have hbo2 := hbo.alloc hso (.cells #[.int .u8 P[k].k, .int .i64 P[k].a, .int .i64 P[k].b, .int .u8 P[k].c] 92)
      have hIo := hI.mono hbo2
      have HC := hide hc
      have HI := hide hI
      have HH := hide h
      have HR := hide hr
      clear hc hok hI h hr hst
      generalize P[k].k = sk at *
      generalize P[k].b = sb at *
      by_cases k0 : sk = 0
      · have tk : ((sk : Int) != 0) = false := by simp [k0]
        obtain ⟨q1, q2⟩ := hrk k0
        have K0 := hide k0
        clear k0
        obtain ⟨x, rfl⟩ : ∃ x : Nat, sb = (x : Int) := ⟨sb.toNat, by omega⟩
        have hx : x < D.length := by omega
        obtain ⟨i1, i2⟩ := hIo x hx
        have hgx : D.getD x [] = D[x] := by simp [hx]
        have hbd := hlen _ (List.getElem_mem hx)
        rw [Int.toNat_natCast, hgx] at HFL HLD
        have HI2 := hide i2
        clear hrk q1 q2 hIo hgx HFO
        by_cases hg : goneB gone x
        · have hcell := i1 hg
          have HB : Hid (¬ ldsOk P D gone) := fun hl => ((HLD.out.1 (hl k hlt)) K0.out).1 hg
          have heq := fun wx => Lib.run_eql_slice_nil (P := Tryd.prog) wx 44 5 none 0 0 0 0 Tryd.underlying44
          clear i1 i2 HI2 HLD HFL HFS
          cases hf : fl P D k
          · go_wp2
            go_ret2
            exact ⟨fun hl => absurd hl HB.out, fun _ => rfl, hbo2⟩
          · go_wp2
            go_ret2
            exact ⟨fun hl => absurd hl HB.out, fun _ => rfl, hbo2⟩
        · obtain ⟨ax, cx, hcell, hBx⟩ := i2 hg
          have heq := fun wx => Lib.run_eql_slice_nil (P := Tryd.prog) wx 44 5 (some ax) (D[x]).length cx 0 0 Tryd.underlying44
          clear i1 i2 HI2 hBx
          generalize D[x].length = n at *
          cases hf : fl P D k with
          | none =>
            have hf1 := HFL.out hf K0.out
            by_cases hn : n ≤ 4096
            · have hok1 := HLD.out.2 (fun _ => ⟨hg, hf1, hn⟩)
              have HOK1 := hide hok1
              have HF1 := hide hf1
              clear HLD HFL HFS hf1 hok1
              go_wp2
              go_roundw
              case rel =>
                refine ⟨k + 1, by omega, by go_num, by first | (rw [HF1.out]; rfl) | rw [HF1.out], by first | (rw [HF1.out]; rfl) | rw [HF1.out], fun i hi => ?_, hbo2⟩
                by_cases e : i = k
                · subst e; exact HOK1.out
                · exact HOK.out i (by omega)
              case measure => simp [intOf]; omega
            · have HB : Hid (¬ ldsOk P D gone) := fun hl => hn ((HLD.out.1 (hl k hlt)) K0.out).2.2
              have hnI : (4096 : Int) < (n : Int) := by omega
              clear HLD HFL HFS hf1
              go_wp2
              go_ret2
              exact ⟨fun hl => absurd hl HB.out, fun _ => rfl, hbo2⟩
          | some m =>
            have hf1 := HFS.out m hf
            by_cases hn : n = m ∧ n ≤ 4096
            · obtain ⟨rfl, hn⟩ := hn
              have hok1 := HLD.out.2 (fun _ => ⟨hg, hf1, hn⟩)
              have HOK1 := hide hok1
              have HF1 := hide hf1
              have tt : (((n : Nat) : Int) != (n : Int)) = false := by simp
              clear HLD HFL HFS hf1 hok1
              go_wp2
              go_roundw
              case rel =>
                refine ⟨k + 1, by omega, by go_num, by first | (rw [HF1.out]; rfl) | rw [HF1.out], by first | (rw [HF1.out]; rfl) | rw [HF1.out], fun i hi => ?_, hbo2⟩
                by_cases e : i = k
                · subst e; exact HOK1.out
                · exact HOK.out i (by omega)
              case measure => simp [intOf]; omega
            · have HB : Hid (¬ ldsOk P D gone) := fun hl => by
                have q := (HLD.out.1 (hl k hlt)) K0.out
                rw [hf1] at q
                have := q.2.1
                simp at this
                omega
              clear HLD HFL HFS hf1
              by_cases hne : n = m
              · have hnI : (4096 : Int) < (m : Int) := by omega
                have tt : (((n : Nat) : Int) != (m : Int)) = false := by simp; omega
                clear hn hne
                go_wp2
                go_ret2
                exact ⟨fun hl => absurd hl HB.out, fun _ => rfl, hbo2⟩
              · have tt : (((n : Nat) : Int) != (m : Int)) = true := by simp; omega
                clear hn hne
                go_wp2
                go_ret2
                exact ⟨fun hl => absurd hl HB.out, fun _ => rfl, hbo2⟩
      · have tk : ((sk : Int) != 0) = true := by simp; omega
        have HF := hide (HFO.out k0)
        have HOK1 := hide (HLD.out.2 (fun e => absurd e k0))
        clear HFO HFL HFS HLD hrk hIo k0
        go_wp2
        go_roundw
        case rel =>
          refine ⟨k + 1, by omega, by go_num, by rw [HF.out], by rw [HF.out], fun i hi => ?_, hbo2⟩
          by_cases e : i = k
          · subst e; exact HOK1.out
          · exact HOK.out i (by omega)
        case measure => simp [intOf]; omega
    · have hkk : k = P.length := by omega
      subst hkk
      have HOK := hide hok
      clear h hI hr hok
      go_wp2
      go_ret2
      exact ⟨fun _ => rfl, fun hn => absurd (fun i hi => HOK.out i hi) hn, hbo⟩
end Go.Proofs.YthhommjlomphdaaDoor
