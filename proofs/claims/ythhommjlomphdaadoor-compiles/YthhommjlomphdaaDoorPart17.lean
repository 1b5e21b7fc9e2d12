import Derived.Test.YthhommjlomphdaaDoorPart04
import Derived.Test.YthhommjlomphdaaDoorPart05
import Derived.Test.YthhommjlomphdaaDoorPart02
import Derived.LaidEql
import Derived.Stop.Asserts
import Derived.RowKitTokens
import Derived.ChangeSame
import Derived.ChangeVars
import Derived.JoinedOf
import Derived.RowKit
import Derived.LaidLaws
import Derived.LaidHandle
import Derived.Stop.Joined
import Derived.Lib.SmallJoins
/-
  The law's own function that holds two lists of rows against each other, and writes into each row of the first.
-/
namespace Go.Proofs.YthhommjlomphdaaDoor
open Go.RowKit Go.Deep Gf

/-- the first i rows are written into -/
def stg (L : List (Nat × Nat × List Nat)) (i : Nat) : List (Nat × Nat × List Nat) :=
  (List.range L.length).map fun j => if j < i then ((L.getD j (0, 0, [])).1, (L.getD j (0, 0, [])).2.1, xr ((j + 1) % 256) (L.getD j (0, 0, [])).2.2) else L.getD j (0, 0, [])
theorem stg_len (L : List (Nat × Nat × List Nat)) (i : Nat) : (stg L i).length = L.length := by simp [stg]
theorem stg_zero (L : List (Nat × Nat × List Nat)) : stg L 0 = L := by
  unfold stg
  apply List.ext_getElem
  · simp
  · intro j h1 h2; simp [h2]
theorem stg_ge (L : List (Nat × Nat × List Nat)) (i j : Nat) (hj : j < L.length) (h : i ≤ j) (h' : j < (stg L i).length) : (stg L i)[j] = L[j] := by
  simp [stg, hj, Nat.not_lt.2 h]
theorem stg_lt (L : List (Nat × Nat × List Nat)) (i j : Nat) (hj : j < L.length) (h : j < i) (h' : j < (stg L i).length) : (stg L i)[j] = (L[j].1, L[j].2.1, xr ((j + 1) % 256) L[j].2.2) := by
  simp [stg, hj, h]
theorem stg_step (L : List (Nat × Nat × List Nat)) (i : Nat) (hi : i < L.length) : (stg L i).set i (L[i].1, L[i].2.1, xr ((i + 1) % 256) L[i].2.2) = stg L (i + 1) := by
  apply List.ext_getElem
  · simp [stg]
  · intro j h1 h2
    have hj : j < L.length := by simpa [stg] using h2
    rw [List.getElem_set]
    by_cases e : i = j
    · subst e; rw [if_pos rfl, stg_lt L _ _ hi (by omega)]
    · rw [if_neg e]
      by_cases e2 : j < i
      · rw [stg_lt L _ _ hj e2, stg_lt L _ _ hj (by omega)]
      · rw [stg_ge L _ _ hj (by omega), stg_ge L _ _ hj (by omega)]
theorem stg_fst (L : List (Nat × Nat × List Nat)) (i : Nat) : ∀ p ∈ stg L i, ∃ q ∈ L, p.1 = q.1 := by
  intro p hp
  obtain ⟨j, hj, rfl⟩ := List.mem_iff_getElem.1 hp
  have hj' : j < L.length := by simpa [stg] using hj
  refine ⟨L[j], List.getElem_mem hj', ?_⟩
  by_cases e : j < i
  · rw [stg_lt L _ _ hj' e]
  · rw [stg_ge L _ _ hj' (by omega)]
theorem Tab.drew {w : World} {base : Nat} {v : Value} {L : List (Nat × Nat × List Nat)} (h : Tab w base v L) (n : Nat) : Tab (w.drewN n) base v L :=
  h.below ⟨rfl, rfl, rfl, Nat.le_refl _, fun _ _ => rfl⟩
/-- the same bytes, row by row -/
def Alikes (K L : List (Nat × Nat × List Nat)) : Prop := K.map (fun p => p.2.2.take p.2.1) = L.map (fun p => p.2.2.take p.2.1)
theorem Alikes.len {K L : List (Nat × Nat × List Nat)} (h : Alikes K L) : K.length = L.length := by simpa using congrArg List.length h
theorem Alikes.at {K L : List (Nat × Nat × List Nat)} (h : Alikes K L) {i : Nat} (h1 : i < K.length) (h2 : i < L.length) : K[i].2.2.take K[i].2.1 = L[i].2.2.take L[i].2.1 := by
  have := List.getElem_of_eq h (i := i) (by simpa using h1)
  simpa using this

theorem Tab.le_max {w : World} {base : Nat} {v : Value} {L : List (Nat × Nat × List Nat)} (h : Tab w base v L) : L.length ≤ maxLen := by
  rcases h.shape with ⟨rfl, rfl⟩ | ⟨g, cap, rfl, _, h2, h3, _⟩
  · exact Nat.zero_le _
  · omega
def SA1 (w : World) (B base base' : Nat) (va vb : Value) (K L : List (Nat × Nat × List Nat)) (i : Value) (wr : World) : Prop :=
  ∃ k : Nat, k ≤ K.length ∧ i = .int .i64 k ∧ Tab wr base va (stg K k) ∧ Tab wr base' vb L ∧ Below B w wr ∧ B ≤ wr.heap.size
set_option maxRecDepth 100000 in
set_option maxHeartbeats 4000000 in
theorem sameAll_eq (va vb : Value) (K L : List (Nat × Nat × List Nat)) (B base base' : Nat) (w : World) (ha : Tab w base va K) (hb : Tab w base' vb L) (hB : B ≤ w.heap.size) (hba : B ≤ base) (hal : Alikes K L) (hap : Apart K L) :
    Calls Tryd.prog 14 #[va, vb] w fun e w' => e = .returned (.bool true) ∧ Below B w w' := by
  have hlen := hal.len
  obtain ⟨ao, cap, rfl, hao⟩ := ha.slice
  obtain ⟨bo, cap', rfl, hbo⟩ := hb.slice
  by_cases hnil : K = []
  · subst hnil
    have hL : L.length = 0 := hlen.symm
    rw [hL]
    clear ha hb hal hap hao hbo hL hlen
    go_enter Tryd.func14, Tryd.ntmps14
    go_wp2
    refine wp_loop_rounds 1 ?_
    rw [rounds_succ]
    go_wp2
    refine wp_loop_rounds 1 ?_
    rw [rounds_succ]
    go_wp2
    go_ret
    exact ⟨rfl, Below.refl _ _⟩
  obtain ⟨g, rfl⟩ := hao hnil
  obtain ⟨g', rfl⟩ := hbo (by intro e; rw [e] at hlen; exact hnil (List.eq_nil_of_length_eq_zero hlen))
  have hnn : (((K.length : Nat) : Int) != ((L.length : Nat) : Int)) = false := by rw [hlen]; simp
  have HL := hide hlen
  have hmx : K.length ≤ maxLen := ha.le_max
  unfold maxLen at hmx
  clear hlen hao hbo hnil
  go_enter Tryd.func14, Tryd.ntmps14
  go_wp2
  go_loopw [5] (fun i wr => SA1 w B base base' (.slice (some ⟨g, 0, none⟩) K.length cap) (.slice (some ⟨g', 0, none⟩) L.length cap') K L i wr) (fun i _ => K.length - (intOf i).toNat)
  case atStart => exact ⟨0, Nat.zero_le _, rfl, by rw [stg_zero]; exact ha, hb, Below.refl _ _, hB⟩
  case round =>
    rename World => wo
    obtain ⟨k, hk, rfl, hTa, hTb, hbel, hsz⟩ := hrel
    by_cases hlt : k < K.length
    · have hltL : k < L.length := by rw [← HL.out]; exact hlt
      have ca := hTa.cell_at (i := k) (by rw [stg_len]; exact hlt)
      have cb := hTb.cell_at hltL
      have hra := hTa.row_at (i := k) (by rw [stg_len]; exact hlt)
      have hrb := hTb.row_at hltL
      have hrow := hTa.row _ (List.getElem_mem (by rw [stg_len]; exact hlt : k < (stg K k).length))
      have hst := stg_step K k hlt
      rw [stg_ge K k k hlt (Nat.le_refl _)] at ca hra hrow
      rw [← hal.at hlt hltL] at hrb
      have hne := fun q hq => hap K[k] (List.getElem_mem hlt) q hq
      have hwr : ∀ (w2 : World) (l2 : List Nat), wo.grownBy w2 (some K[k].1) → Brow w2 K[k].1 l2 → l2.length = K[k].2.2.length → (∀ x ∈ l2, x < 256) → Tab w2 base (.slice (some ⟨g, 0, none⟩) K.length cap) ((stg K k).set k (K[k].1, K[k].2.1, l2)) := by
        intro w2 l2 q1 q2 q3 q4
        have e := stg_ge K k k hlt (Nat.le_refl _) (by rw [stg_len]; exact hlt)
        have := hTa.wrote (i := k) (by rw [stg_len]; exact hlt) (l' := l2) (w' := w2) (by rw [e]; exact q1) (by rw [e]; exact q2) (by rw [e]; exact q3) q4
        rw [e] at this
        exact this
      have hbase : base ≤ K[k].1 := hrow.1
      obtain ⟨⟨b, n, l⟩, hKk⟩ : ∃ p, p = K[k] := ⟨_, rfl⟩
      obtain ⟨⟨b', n', l'⟩, hLk⟩ : ∃ p, p = L[k] := ⟨_, rfl⟩
      rw [← hKk] at ca hra hrow hst hrb hne hwr hbase
      rw [← hLk] at cb hrb
      simp only [hdr] at ca cb hra hrb hrow hst hrb hne hwr hbase
      obtain ⟨r1, r2, r3, r4, r5⟩ := hrow
      have HS := hide hst
      have HW := hide hwr
      have HN := hide hne
      have hl47 : l.length ≤ 9223372036854775807 := r4.2
      clear hst hwr hne hKk hLk
      go_wp2
      go_quiet ((go_at_call 32; exact Calls.quiet_of (same_eq _ _ _ _ (hra.drew _) (hrb.drew _))))
      go_wp2
      go_quiet (fail)
      go_wp2
      obtain ⟨c, hc256, hc⟩ : ∃ c : Nat, c < 256 ∧ ((k : Int) + 1) % 256 = (c : Int) := ⟨(k + 1) % 256, by omega, by omega⟩
      have hcc : (k + 1) % 256 = c := by omega
      rw [hcc] at HS
      have hc2 := hide hcc
      clear hcc
      go_loopw [8] (fun j wr => SA2 wo b c l j wr) (fun j _ => l.length - (intOf j).toNat)
      case atStart => exact ⟨0, Nat.zero_le _, rfl, grown_drew (grown_drew (World.grownBy.refl _ _) _) _, by rw [xrTo_zero]; exact r2⟩
      case round =>
        obtain ⟨j, hj, rfl, hgr, hBj⟩ := hrel
        by_cases hjl : j < l.length
        · have c1 := hBj.cell j (by rw [xrTo_len]; exact hjl)
          have f1 := hBj.frozen j
          rw [xrTo_get c j l hjl] at c1
          have hx := getD_lt r5 j
          have hB2 := hBj.set j (l.getD j 0 ^^^ c)
          rw [xrTo_step] at hB2
          have hg2 := grown_set hgr j (.int .u8 ((l.getD j 0 ^^^ c : Nat) : Int))
          have hxx := u8_xor (l.getD j 0) c hx hc256
          generalize l.getD j 0 = x at *
          clear hBj hgr ca cb hra hrb HS HW HN
          go_wp2
          go_roundw
          case rel => exact ⟨j + 1, by omega, by go_num, hg2, hB2⟩
          case measure => simp [intOf]; omega
        · have hjj : j = l.length := by omega
          rw [hjj, xrTo_end] at hBj
          have hT2 := HW.out _ _ hgr hBj (xr_len c l) (xr_lt hc256 r5)
          rw [HS.out] at hT2
          have hTb2 := hTb.aside r2 hgr (fun q hq => (HN.out q hq).symm)
          have hb2 := grown_below hbel hgr hsz (by omega)
          have hs2 := hgr.size
          clear hBj hgr HS HW HN ca cb hra hrb hTa hTb hbel r2 hjj
          go_wp2
          go_roundw
          case rel => exact ⟨k + 1, by omega, by go_num, hT2, hTb2, hb2, by omega⟩
          case measure => simp [intOf]; omega
    · have hkK : k = K.length := by omega
      have hTe : Tab wo base (.slice (some ⟨g, 0, none⟩) K.length cap) (stg K K.length) := by rw [hkK] at hTa; exact hTa
      clear hTa hkK
      go_wp2
      go_loopw [9] (fun i wr => SameR wo K.length i wr) (fun i _ => K.length - (intOf i).toNat)
      case atStart => exact ⟨0, 0, Nat.zero_le _, rfl, rfl⟩
      case round =>
        obtain ⟨t, m, ht, rfl, rfl⟩ := hrel
        by_cases htl : t < K.length
        · have hltL : t < L.length := by rw [← HL.out]; exact htl
          have ca := hTe.cell_at (i := t) (by rw [stg_len]; exact htl)
          have cb := hTb.cell_at hltL
          have ra := (hTe.row _ (List.getElem_mem (by rw [stg_len]; exact htl : t < (stg K K.length).length)))
          have rb := (hTb.row _ (List.getElem_mem hltL))
          rw [stg_lt K _ _ htl htl] at ca ra
          have hat := hal.at htl hltL
          obtain ⟨⟨b, n, l⟩, hKk⟩ : ∃ p, p = K[t] := ⟨_, rfl⟩
          obtain ⟨⟨b', n', l'⟩, hLk⟩ : ∃ p, p = L[t] := ⟨_, rfl⟩
          rw [← hKk] at ca ra hat
          rw [← hLk] at cb rb hat
          simp only [hdr] at ca cb ra rb hat
          obtain ⟨r1, r2, r3, r4, r5⟩ := ra
          obtain ⟨s1, s2, s3, s4, s5⟩ := rb
          rw [xr_len] at r3 r4 ca
          have hnn' : n = n' := by
            have := congrArg List.length hat
            rw [List.length_take, List.length_take] at this
            omega
          subst hnn'
          have hn47 : n ≤ 140737488355328 := by omega
          obtain ⟨c, hc256, hc⟩ : ∃ c : Nat, c < 256 ∧ ((t : Int) + 1) % 256 = (c : Int) := ⟨(t + 1) % 256, by omega, by omega⟩
          have hcc : (t + 1) % 256 = c := by omega
          rw [hcc] at r2
          have HA := hide hat
          clear hcc hat hKk hLk r5
          go_wp2
          go_loopw [10] (fun i wr => SameR wo n i wr) (fun i _ => n - (intOf i).toNat)
          case atStart => exact ⟨0, m, Nat.zero_le _, rfl, rfl⟩
          case round =>
            obtain ⟨j, m', hj, rfl, rfl⟩ := hrel
            by_cases hjn : j < n
            · have c1 := r2.cell j (by rw [xr_len]; omega)
              have c2 := s2.cell j (by omega)
              have e : l.getD j 0 = l'.getD j 0 := by
                have := congrArg (fun z => z.getD j 0) HA.out
                simpa [hjn] using this
              rw [xr_get c l j (by omega), e] at c1
              have hx := getD_lt s5 j
              have hxx := u8_xor (l'.getD j 0) c hx hc256
              generalize l'.getD j 0 = x at *
              have hz : (((x ^^^ c : Nat) : Int) != ((x ^^^ c : Nat) : Int)) = false := by simp
              clear e HA r2 s2 hTe hTb
              go_wp2
              go_quiet (fail)
              go_wp2
              go_roundw
              case rel => exact ⟨j + 1, _, by omega, by go_num, rfl⟩
              case measure => simp [intOf]; omega
            · go_wp2
              go_roundw
              case rel => exact ⟨t + 1, _, by omega, by go_num, rfl⟩
              case measure => simp [intOf]; omega
        · go_wp2
          go_ret
          exact ⟨rfl, hbel.trans ⟨rfl, rfl, rfl, Nat.le_refl _, fun _ _ => rfl⟩⟩
end Go.Proofs.YthhommjlomphdaaDoor
/-
  errors.As at the program's own kind of error (after the guide's worked example of errors.As at a concrete target), and Tell.
-/
namespace Go.Proofs.YthhommjlomphdaaDoor
open Go.RowKit Go.Deep Go.Extern.Stop Go.Stop Go.Extern

theorem Tryd.valueOfP (t : Addr) (w : World) : (ReflectliteValue.unpack (.iface 86 (.pointer (some t)))).run Tryd.prog w
    = .ok (.agg #[.pointer (some ⟨2, 86, none⟩), .pointer (some ⟨w.heap.size, 0, none⟩), .int .u64 150]) (w.alloc (.cells #[.pointer (some t)] 86)) := by kernel_rfl
theorem Tryd.typeP (a : Addr) (w : World) : (ReflectliteValue.methodAny (ReflectliteValue.valueError "reflectlite.Value.Type" 0) (fun t _ _ _ => ReflectliteType.toType t) #[.agg #[.pointer (some ⟨2, 86, none⟩), .pointer (some a), .int .u64 150]]).run Tryd.prog w
    = .ok (.iface 133 (.agg #[.pointer (some ⟨2, 86, none⟩)])) w := by kernel_rfl
theorem Tryd.methodKind (h : Value) (w : World) : (Go.method 299 133 (.agg #[h]) "Kind").run Tryd.prog w = .ok (119, h) w := by kernel_rfl
theorem Tryd.kindP (w : World) : ((ReflectliteType.abiMethod fun t => (fun a : Nat => Value.int IntKind.u8 (a : Int)) <$> Rtype.kind t) #[.pointer (some ⟨2, 86, none⟩)]).run Tryd.prog w = .ok (.int .u8 22) w := by kernel_rfl
theorem Tryd.kindE (w : World) : ((ReflectliteType.abiMethod fun t => (fun a : Nat => Value.int IntKind.u8 (a : Int)) <$> Rtype.kind t) #[.pointer (some ⟨2, 29, none⟩)]).run Tryd.prog w = .ok (.int .u8 2) w := by kernel_rfl

theorem Tryd.partsP (a : Addr) (w : World) : (ReflectliteValue.parts (.agg #[.pointer (some ⟨2, 86, none⟩), .pointer (some a), .int .u64 150])).run Tryd.prog w = .ok (some (86, a, 150)) w := by kernel_rfl
theorem Tryd.isNilP (a p : Addr) (W : World) (ha : W.cell? a = some (.pointer (some p))) :
    (ReflectliteValue.method (ReflectliteValue.valueError "reflectlite.Value.IsNil" 0) ReflectliteValue.isNil #[.agg #[.pointer (some ⟨2, 86, none⟩), .pointer (some a), .int .u64 150]]).run Tryd.prog W = .ok (.bool false) W := by
  refine Eq.trans (congrArg (fun z => Sem.run Tryd.prog z W) (show ReflectliteValue.method _ _ #[.agg #[.pointer (some ⟨2, 86, none⟩), .pointer (some a), .int .u64 150]] = (ReflectliteValue.parts (.agg #[.pointer (some ⟨2, 86, none⟩), .pointer (some a), .int .u64 150]) >>= _) from rfl)) ?_
  simp only [Sem.run_bind, Tryd.partsP, Result.andThen]
  simp [ReflectliteValue.isNil, loadVar, isAgg, underlying, Tryd.underlying86, ha, Result.andThen]

theorem Tryd.methodElem (h : Value) (w : World) : (Go.method 299 133 (.agg #[h]) "Elem").run Tryd.prog w = .ok (129, .agg #[h]) w := by kernel_rfl
theorem Tryd.methodImplements (h : Value) (w : World) : (Go.method 299 133 (.agg #[h]) "Implements").run Tryd.prog w = .ok (130, .agg #[h]) w := by kernel_rfl
theorem Tryd.methodAssignableTo (h : Value) (w : World) : (Go.method 299 133 (.agg #[h]) "AssignableTo").run Tryd.prog w = .ok (127, .agg #[h]) w := by kernel_rfl
theorem Tryd.elemP (w : World) : (ReflectliteType.method ReflectliteType.elem #[.agg #[.pointer (some ⟨2, 86, none⟩)]]).run Tryd.prog w = .ok (.iface 133 (.agg #[.pointer (some ⟨2, 29, none⟩)])) w := by kernel_rfl
theorem Tryd.implementsE (w : World) : (ReflectliteType.relation "Implements" ReflectliteType.implements_ #[.agg #[.pointer (some ⟨2, 29, none⟩)], .iface 133 (.agg #[.pointer (some ⟨2, 26, none⟩)])]).run Tryd.prog w = .ok (.bool true) w := by kernel_rfl
theorem Tryd.typeOfE (v : Value) (w : World) : (ReflectliteType.typeOf #[.iface 29 v]).run Tryd.prog w = .ok (.iface 133 (.agg #[.pointer (some ⟨2, 29, none⟩)])) w := by kernel_rfl
theorem Tryd.assignableE (w : World) : (ReflectliteType.relation "AssignableTo" ReflectliteType.assignableTo #[.agg #[.pointer (some ⟨2, 29, none⟩)], .iface 133 (.agg #[.pointer (some ⟨2, 29, none⟩)])]).run Tryd.prog w = .ok (.bool true) w := by kernel_rfl
theorem Tryd.valueOfE (x : Int) (w : World) : (ReflectliteValue.unpack (.iface 29 (.int .i64 x))).run Tryd.prog w
    = .ok (.agg #[.pointer (some ⟨2, 29, none⟩), .pointer (some ⟨w.heap.size, 0, none⟩), .int .u64 130]) (w.alloc (.cells #[.int .i64 x] 29)) := by kernel_rfl

theorem Tryd.elemOfP (w : World) : (Rtype.elem? 86).run Tryd.prog w = .ok (some 29) w := by kernel_rfl
theorem Tryd.mkE (p : Addr) (w : World) : (ReflectliteValue.mk 29 p ReflectliteValue.flagAddr).run Tryd.prog w = .ok (.agg #[.pointer (some ⟨2, 29, none⟩), .pointer (some p), .int .u64 386]) w := by kernel_rfl
theorem Tryd.elemVP (a p : Addr) (W : World) (ha : W.cell? a = some (.pointer (some p))) :
    (ReflectliteValue.method (ReflectliteValue.valueError "reflectlite.Value.Elem" 0) ReflectliteValue.elem #[.agg #[.pointer (some ⟨2, 86, none⟩), .pointer (some a), .int .u64 150]]).run Tryd.prog W
      = .ok (.agg #[.pointer (some ⟨2, 29, none⟩), .pointer (some p), .int .u64 386]) W := by
  refine Eq.trans (congrArg (fun z => Sem.run Tryd.prog z W) (show ReflectliteValue.method _ _ #[.agg #[.pointer (some ⟨2, 86, none⟩), .pointer (some a), .int .u64 150]] = (ReflectliteValue.parts (.agg #[.pointer (some ⟨2, 86, none⟩), .pointer (some a), .int .u64 150]) >>= _) from rfl)) ?_
  simp only [Sem.run_bind, Tryd.partsP, Result.andThen]
  simp [ReflectliteValue.elem, loadVar, isAgg, underlying, Tryd.underlying86, ha, Result.andThen, Tryd.elemOfP, Tryd.mkE]
theorem Tryd.partsEa (a : Addr) (w : World) : (ReflectliteValue.parts (.agg #[.pointer (some ⟨2, 29, none⟩), .pointer (some a), .int .u64 386])).run Tryd.prog w = .ok (some (29, a, 386)) w := by kernel_rfl
theorem Tryd.partsE (a : Addr) (w : World) : (ReflectliteValue.parts (.agg #[.pointer (some ⟨2, 29, none⟩), .pointer (some a), .int .u64 130])).run Tryd.prog w = .ok (some (29, a, 130)) w := by kernel_rfl
theorem Tryd.directE (w : World) : (Rtype.directlyAssignable 29 29).run Tryd.prog w = .ok true w := by kernel_rfl
theorem Tryd.sizeE (w : World) : (sizeOf 29).run Tryd.prog w = .ok 1 w := by kernel_rfl
theorem Tryd.setE (ta b : Addr) (x : Int) (old : Value) (W : World) (hb : W.cell? b = some (.int .i64 x)) (ht : W.cell? ta = some old) (hf : W.frozen? ta = false) :
    (ReflectliteValue.set #[.agg #[.pointer (some ⟨2, 29, none⟩), .pointer (some ta), .int .u64 386], .agg #[.pointer (some ⟨2, 29, none⟩), .pointer (some b), .int .u64 130]]).run Tryd.prog W
      = .ok (.tuple #[]) (W.setCell ta (.int .i64 x)) := by
  refine Eq.trans (congrArg (fun z => Sem.run Tryd.prog z W) (show ReflectliteValue.set #[.agg #[.pointer (some ⟨2, 29, none⟩), .pointer (some ta), .int .u64 386], .agg #[.pointer (some ⟨2, 29, none⟩), .pointer (some b), .int .u64 130]] = (ReflectliteValue.parts (.agg #[.pointer (some ⟨2, 29, none⟩), .pointer (some ta), .int .u64 386]) >>= fun p => ReflectliteValue.parts (.agg #[.pointer (some ⟨2, 29, none⟩), .pointer (some b), .int .u64 130]) >>= (_ : _ → Sem Value)) from rfl)) ?_
  simp only [Sem.run_bind, Tryd.partsEa, Tryd.partsE, Result.andThen]
  simp [ReflectliteValue.flagAddr, loadVar, isAgg, underlying, Tryd.underlying29, hb, Result.andThen, Tryd.directE, storeVar, Value.cells, storeCells, Addr.add]
  rw [run_store Tryd.prog W ta _ _ (by rfl)]
  simp [ht, hf]

set_option maxRecDepth 100000 in
set_option maxHeartbeats 4000000 in
theorem as_hit (x : Int) (t : Addr) (old : Value) (w : World) (hg : w.cell? ⟨0, 0, none⟩ = some (.iface 133 (.agg #[.pointer (some ⟨2, 26, none⟩)]))) (ht0 : w.cell? t = some old) (hf0 : w.frozen? t = false) :
    Calls Tryd.prog 39 #[.iface 29 (.int .i64 x), .iface 86 (.pointer (some t))] w fun ev w' => ev = .returned (.bool true) ∧ w' = ((((w.alloc (.cells #[.pointer (some t)] 86)).alloc (.cells #[.pointer (some ⟨2, 86, none⟩), .pointer (some ⟨w.heap.size, 0, none⟩), .int .u64 150] 104)).alloc (.cells #[.pointer (some ⟨2, 86, none⟩), .pointer (some ⟨w.heap.size, 0, none⟩), .int .u64 150] 104)).alloc (.cells #[.int .i64 x] 29)).setCell t (.int .i64 x) := by
  have h6 := @run_callFunc_extern Tryd.prog 57 _ (fun args => ReflectliteValue.unpack (args.getD 0 (.tuple #[]))) Tryd.func57 (by kernel_rfl) (by kernel_rfl) (by kernel_rfl) (by kernel_rfl)
  have h7 := @run_callFunc_extern Tryd.prog 58 _ (ReflectliteValue.methodAny (ReflectliteValue.valueError "reflectlite.Value.Type" 0) (fun t _ _ _ => ReflectliteType.toType t)) Tryd.func58 (by kernel_rfl) (by kernel_rfl) (by kernel_rfl) (by kernel_rfl)
  have h8 := @run_callFunc_extern Tryd.prog 59 _ (ReflectliteValue.method (ReflectliteValue.valueError "reflectlite.Value.IsNil" 0) ReflectliteValue.isNil) Tryd.func59 (by kernel_rfl) (by kernel_rfl) (by kernel_rfl) (by kernel_rfl)
  have h27 := @run_callFunc_extern Tryd.prog 119 _ (ReflectliteType.abiMethod fun t => do pure (.int .u8 (← Rtype.kind t))) Tryd.func119 (by kernel_rfl) (by kernel_rfl) (by kernel_rfl) (by kernel_rfl)
  have h37 := @run_callFunc_extern Tryd.prog 129 _ (ReflectliteType.method ReflectliteType.elem) Tryd.func129 (by kernel_rfl) (by kernel_rfl) (by kernel_rfl) (by kernel_rfl)
  have h38 := @run_callFunc_extern Tryd.prog 130 _ (ReflectliteType.relation "Implements" ReflectliteType.implements_) Tryd.func130 (by kernel_rfl) (by kernel_rfl) (by kernel_rfl) (by kernel_rfl)
  have h10 := @run_callFunc_extern Tryd.prog 77 _ ReflectliteType.typeOf Tryd.func77 (by kernel_rfl) (by kernel_rfl) (by kernel_rfl) (by kernel_rfl)
  have h35 := @run_callFunc_extern Tryd.prog 127 _ (ReflectliteType.relation "AssignableTo" ReflectliteType.assignableTo) Tryd.func127 (by kernel_rfl) (by kernel_rfl) (by kernel_rfl) (by kernel_rfl)
  have h11 := @run_callFunc_extern Tryd.prog 78 _ (ReflectliteValue.method (ReflectliteValue.valueError "reflectlite.Value.Elem" 0) ReflectliteValue.elem) Tryd.func78 (by kernel_rfl) (by kernel_rfl) (by kernel_rfl) (by kernel_rfl)
  have h12 := @run_callFunc_extern Tryd.prog 79 _ ReflectliteValue.set Tryd.func79 (by kernel_rfl) (by kernel_rfl) (by kernel_rfl) (by kernel_rfl)
  have tO := Tryd.typeOfE
  have mA := Tryd.methodAssignableTo
  have aE := Tryd.assignableE
  have vE := Tryd.valueOfE
  have f6 := Tryd.valueOfP
  have f7 := Tryd.typeP
  have mK := Tryd.methodKind
  have mE := Tryd.methodElem
  have mI := Tryd.methodImplements
  have kP := Tryd.kindP
  have kE := Tryd.kindE
  have eP := Tryd.elemP
  have iE := Tryd.implementsE
  have n8 := Tryd.isNilP ⟨w.heap.size, 0, none⟩ t ((w.alloc (.cells #[.pointer (some t)] 86)).alloc (.cells #[.pointer (some ⟨2, 86, none⟩), .pointer (some ⟨w.heap.size, 0, none⟩), .int .u64 150] 104)) (by simp)
  have hlt : 0 < w.heap.size := by
    rcases Nat.eq_zero_or_pos w.heap.size with h0 | h
    · simp [World.cell?, h0] at hg
    · exact h
  have hg2 : ((w.alloc (.cells #[.pointer (some t)] 86)).alloc (.cells #[.pointer (some ⟨2, 86, none⟩), .pointer (some ⟨w.heap.size, 0, none⟩), .int .u64 150] 104)).cell? ⟨0, 0, none⟩ = some (.iface 133 (.agg #[.pointer (some ⟨2, 26, none⟩)])) := by
    rw [World.cell?_alloc_lt _ _ ⟨0, 0, none⟩ (by simp), World.cell?_alloc_lt _ _ ⟨0, 0, none⟩ hlt]; exact hg
  have htl : t.block < w.heap.size := by
    rcases Nat.lt_or_ge t.block w.heap.size with h | h
    · exact h
    · simp [World.cell?, Array.getElem?_eq_none h] at ht0
  have el := Tryd.elemVP ⟨w.heap.size, 0, none⟩ t (((w.alloc (.cells #[.pointer (some t)] 86)).alloc (.cells #[.pointer (some ⟨2, 86, none⟩), .pointer (some ⟨w.heap.size, 0, none⟩), .int .u64 150] 104)).alloc (.cells #[.pointer (some ⟨2, 86, none⟩), .pointer (some ⟨w.heap.size, 0, none⟩), .int .u64 150] 104)) (by rw [World.cell?_alloc_lt _ _ ⟨w.heap.size, 0, none⟩ (by simp; omega)]; simp)
  have st := Tryd.setE t ⟨w.heap.size + 1 + 1 + 1, 0, none⟩ x old ((((w.alloc (.cells #[.pointer (some t)] 86)).alloc (.cells #[.pointer (some ⟨2, 86, none⟩), .pointer (some ⟨w.heap.size, 0, none⟩), .int .u64 150] 104)).alloc (.cells #[.pointer (some ⟨2, 86, none⟩), .pointer (some ⟨w.heap.size, 0, none⟩), .int .u64 150] 104)).alloc (.cells #[.int .i64 x] 29))
    (by rw [World.cell?_alloc_at _ _ _ _ (by simp)]; rfl)
    (by rw [World.cell?_alloc_lt _ _ t (by simp; omega), World.cell?_alloc_lt _ _ t (by simp; omega), World.cell?_alloc_lt _ _ t (by simp; omega), World.cell?_alloc_lt _ _ t htl]; exact ht0)
    (by rw [World.frozen?_alloc_old _ _ t (by simp; omega), World.frozen?_alloc_old _ _ t (by simp; omega), World.frozen?_alloc_old _ _ t (by simp; omega), World.frozen?_alloc_old _ _ t (Nat.ne_of_lt htl)]; exact hf0)
  go_enter Tryd.func39, Tryd.ntmps39
  go_wp2
  refine wp_loop_rounds 1 ?_
  rw [rounds_succ]
  go_wp2
  go_ret
  exact ⟨rfl, rfl⟩

set_option maxRecDepth 100000 in
set_option maxHeartbeats 4000000 in
theorem tell_nil (w : World) :
    Calls Tryd.prog 11 #[.nilIface] w fun e w' => e = .returned (.int .i64 0) ∧ Below w.heap.size w w' := by
  go_enter Tryd.func11, Tryd.ntmps11
  go_wp2
  go_ret
  exact ⟨rfl, (Below.refl _ _).alloc (Nat.le_refl _) _⟩
set_option maxRecDepth 100000 in
set_option maxHeartbeats 4000000 in
theorem tell_errno (x : Int) (w : World) (hg : w.cell? ⟨0, 0, none⟩ = some (.iface 133 (.agg #[.pointer (some ⟨2, 26, none⟩)]))) :
    Calls Tryd.prog 11 #[.iface 29 (.int .i64 x)] w fun e w' => e = .returned (.int .i64 x) ∧ Below w.heap.size w w' := by
  have hlt : 0 < w.heap.size := by
    rcases Nat.eq_zero_or_pos w.heap.size with h0 | h
    · simp [World.cell?, h0] at hg
    · exact h
  have hg2 : (w.alloc (.cells #[.int .i64 0] 29)).cell? ⟨0, 0, none⟩ = some (.iface 133 (.agg #[.pointer (some ⟨2, 26, none⟩)])) := by
    rw [World.cell?_alloc_lt _ _ ⟨0, 0, none⟩ hlt]; exact hg
  go_enter Tryd.func11, Tryd.ntmps11
  go_wp2_with (go_at_call 39; refine (as_hit x ⟨w.heap.size, 0, none⟩ (.int .i64 0) _ hg2 (by simp) (by simp)).mono ?_; rintro e w' ⟨rfl, rfl⟩)
  go_ret
  refine ⟨rfl, ?_⟩
  repeat (first | exact Below.refl _ _ | refine Below.setCell ?_ (by simp) _ | refine Below.alloc ?_ (by (try simp only [nblk_alloc]); omega) _)
set_option maxRecDepth 100000 in
theorem num_any (x : Int) (w : World) :
    Calls Tryd.prog 15 #[.int .i64 x] w fun e w' => e = .returned (.int .i64 x) ∧ w' = w := by
  go_enter Tryd.func15, Tryd.ntmps15
  go_wp2
  go_ret
  exact ⟨rfl, rfl⟩
end Go.Proofs.YthhommjlomphdaaDoor
/-
  The package-level variable that errors.As reads: what the row's condition gives a walk, and a world that meets it (after the guide's worked example of a tied card).
-/
namespace Go.Proofs.YthhommjlomphdaaDoor
open Go.ChangeShapes Go.WideShapes Go.RowKit

theorem Tryd.own : ownKnob Tryd.prog.godebug = none := by kernel_rfl
theorem Tryd.et : Tryd.prog.globalNamed "errors.errorType" = some 0 := by kernel_rfl
theorem Tryd.rt : (Tryd.prog.cutTypes.find? (fun x => x.1 == "internal/reflectlite.rtype")).map (fun x => x.2) = some 133 := by kernel_rfl
theorem Tryd.oneRow : ((List.range 199).filter fun t => Tryd.prog.rowNamed t [101, 114, 114, 111, 114]) = [26] := by kernel_rfl
theorem Tryd.size : Tryd.prog.types.size = 199 := by kernel_rfl
def globalLaid (w : World) : Prop := w.cell? ⟨0, 0, none⟩ = some (.iface 133 (.agg #[.pointer (some ⟨2, 26, none⟩)]))
theorem handle_of_laid {W : World} (h : laidMetH Tryd.prog [("errors.errorType", Rows.laid_errors_errorType)] W) : globalLaid W := by
  have h' : laidMet Tryd.prog [] W ∧ handlesMet Tryd.prog [("errors.errorType", Rows.laid_errors_errorType)] W := h
  obtain ⟨name, u, ty, e1, e2, e3, e4, e5⟩ := h'.2 _ (List.mem_singleton.2 rfl)
  have en : name = [101, 114, 114, 111, 114] := (Option.some.inj e1).symm
  subst en
  obtain rfl := Option.some.inj (Tryd.rt.symm.trans e2)
  have hm : ty ∈ (List.range 199).filter fun t => Tryd.prog.rowNamed t [101, 114, 114, 111, 114] := List.mem_filter.2 ⟨List.mem_range.2 (by rw [← Tryd.size]; exact e3), e4⟩
  rw [Tryd.oneRow] at hm
  obtain rfl := List.mem_singleton.1 hm
  have hh : typeHandle Tryd.prog 26 = .pointer (some ⟨2, 26, none⟩) := by kernel_rfl
  rw [hh] at e5
  unfold globalLaid
  simpa using World.var?_cell Tryd.et e5 0
theorem laidWorld_met (os : Os) (args : Array Value) : laidMetH Tryd.prog [("errors.errorType", Rows.laid_errors_errorType)] (({ World.holding Tryd.prog os ⟨#[], #[], []⟩ with heap := (World.holding Tryd.prog os ⟨#[], #[], []⟩).heap.modify 0 fun | .cells _ t frozen => .cells #[.iface 133 (.agg #[.pointer (some ⟨2, 26, none⟩)])] t frozen | o => o } : World).forCall (fun _ _ => 0) ⟨#[], args, []⟩).memory :=
  laidMetH_of_parts (laidMet_nil _ _) (by kernel_rfl)
theorem Tryd.cellsParams : Tryd.prog.cellsOf 23 = 3 := by kernel_rfl
end Go.Proofs.YthhommjlomphdaaDoor
