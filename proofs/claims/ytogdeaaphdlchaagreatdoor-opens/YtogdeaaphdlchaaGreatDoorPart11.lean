import Derived.Test.YtogdeaaphdlchaaGreatDoorPart10
import Derived.Test.YtogdeaaphdlchaaGreatDoorPart01
import Derived.LaidEql
import Derived.Stop.Asserts
import Derived.RowKitTokens
import Derived.Test.YtogdeaaphdlchaaGreatDoorPart06
import Derived.Test.YtogdeaaphdlchaaGreatDoorPart09
/-
  A new volume, with a shelf of its own; what an archive does while there is power.
-/
namespace Go.Proofs.YtogdeaaphdlchaaGreatDoor
open Go.RowKit Go.Deep

set_option maxRecDepth 100000 in
set_option maxHeartbeats 1000000 in
theorem recentNew_any (n : Int) (w : World) : Calls Tryz.prog 39 #[.int .i64 n] w fun e w' => ∃ b, e = .returned (.pointer (some ⟨b, 0, none⟩)) ∧ w.heap.size ≤ b ∧ Below w.heap.size w w' := by
  have hmm : ∀ w, (Instr.makeMap 150 none).run Tryz.prog w = .ok (.map (some w.heap.size)) (w.alloc (.map #[] 0)) := fun _ => rfl
  have h1 : ∀ o1 o2 o3 : Obj, Below w.heap.size w (((w.alloc o1).alloc o2).alloc o3) := fun o1 o2 o3 => (((Below.refl _ w).alloc (Nat.le_refl _) _).alloc (by simp) _).alloc (by simp; omega) _
  have H := hide h1
  clear h1
  go_enter Tryz.func39, Tryz.ntmps39
  go_wp2
  go_ret
  exact ⟨_, rfl, by omega, H.out _ _ _⟩
set_option maxRecDepth 100000 in
set_option maxHeartbeats 1000000 in
theorem newShelf_any (n : Int) (w : World) : Calls Tryz.prog 26 #[.int .i64 n] w fun e w' => ∃ b, e = .returned (.pointer (some ⟨b, 0, none⟩)) ∧ w.heap.size ≤ b ∧ Below w.heap.size w w' := by
  go_enter Tryz.func26, Tryz.ntmps26
  go_wp2_with fail
  refine (recentNew_any n w).mono ?_
  rintro e w1 ⟨b, rfl, hb, hbw⟩
  have H := hide hbw
  have hz := hbw.size
  clear hbw
  go_wp2
  go_ret
  exact ⟨_, rfl, hz, H.out.trans ((Below.refl _ w1).alloc hz _)⟩
noncomputable def RVn : Array Oper := ((Tryz.f18.body.bind (rgf · 1))).getD #[]
def shVn : List (Op × Option Nat × List Nat) := [(Op.move (Operand.tmp 0), some 7, []),
    (Op.load 23 (Operand.tmp 4), some 8, []),
    (Op.move (Operand.tmp 2), some 9, []),
    (Op.call { callee := Callee.value (Operand.func 26), args := #[Operand.tmp 9], argTypes := #[3] }, some 10, [2]),
    (Op.build 91 #[(0, Operand.tmp 7), (1, Operand.tmp 8), (2, Operand.tmp 10)], some 11, [0, 1, 3]),
    (Op.box 91 (Operand.tmp 11), some 12, [4]),
    (Op.assign (Operand.tmp 12), some 6, [5, 3, 0, 1, 2, 3, 4, 5])]
theorem RVn_shape : RegShape RVn 6 13 shVn := regShape (by kernel_rfl) (by kernel_rfl)
def VVn (w0 : World) (p D L G : Nat) (n : Int) (i : Nat) (u : Value) (w : World) : Prop := match i with
  | 0 => u = .pointer (some ⟨p, 0, none⟩)
  | 1 => u = .agg #[.int .i64 D, .int .i64 L, .int .i64 G]
  | 2 => u = .int .i64 n
  | 3 => ∃ b, u = .pointer (some ⟨b, 0, none⟩)
  | 4 => ∃ b, u = .agg #[.pointer (some ⟨p, 0, none⟩), .int .i64 D, .int .i64 L, .int .i64 G, .pointer (some ⟨b, 0, none⟩), .int .u64 0]
  | 5 | 6 => ∃ v b, u = .pointer (some ⟨v, 0, none⟩) ∧ w0.heap.size ≤ v ∧ VolAt w v p D L G b 0
  | _ => True
set_option maxRecDepth 100000 in
set_option maxHeartbeats 1000000 in
theorem volNew_region {ops : Array Oper} {Q : Exit → Act → World → Prop} {a : Act} {w : World} {p D L G q : Nat} {n : Int} (hops : RVn = ops) (hq : w.heap[q]? = some (.cells #[.int .i64 (D : Int), .int .i64 (L : Int), .int .i64 (G : Int)] 23 (0, 0))) (hsz : a.tmps.size = 13)
    (e0 : a.eval (.tmp 0) = .pointer (some ⟨p, 0, none⟩)) (e4 : a.eval (.tmp 4) = .pointer (some ⟨q, 0, none⟩)) (e2 : a.eval (.tmp 2) = .int .i64 n)
    (hQ : ∀ (w' : World) (vs : List Value) (v b : Nat), vs.length = 6 → w.heap.size ≤ v → VolAt w' v p D L G b 0 → Below w.heap.size w w' → Q .normal (Act.putFrom a 6 (.pointer (some ⟨v, 0, none⟩) :: vs)) w') : (Code.region 1 ops true).wp Tryz.prog Q a w := by
  subst hops
  have hql : q < w.heap.size := (Array.getElem?_eq_some_iff.1 hq).1
  refine region_facts (by kernel_rfl) RVn_shape a w (by omega) (VVn w p D L G n) (fun _ w' => Below w.heap.size w w') ((Below.refl _ w).drew) ?_ ?_
  · intro i hi
    have hst : ∀ (w' w'' : World), Below w'.heap.size w' w'' → ∀ j u, VVn w p D L G n j u w' → VVn w p D L G n j u w'' := fun w' w'' hb j u h => by
      match j, h with
      | 0, h | 1, h | 2, h | 3, h | 4, h => exact h
      | 5, ⟨v, b, h1, h2, h3⟩ => exact ⟨v, b, h1, h2, h3.keep (hb.block _ h3.lt)⟩
      | 6, ⟨v, b, h1, h2, h3⟩ => exact ⟨v, b, h1, h2, h3.keep (hb.block _ h3.lt)⟩
      | j + 7, _ => trivial
    match i, hi with
    | 0, _ => exact fun o a' w' Dn hg ho hdst hk hDi hcl hdep hB hV => op_val (run_op_move ho ((hk.slot 0 (by omega)).trans e0) w') hdst ⟨hB, rfl, fun _ _ _ q => q⟩
    | 1, _ =>
      intro o a' w' Dn hg ho hdst hk hDi hcl hdep hB hV
      have u0 : a'.eval (.tmp 4) = .pointer (some ⟨q, 0, none⟩) := (hk.slot 4 (by omega)).trans e4
      have hq' : w'.heap[q]? = _ := (hB.block q hql).trans hq
      have hld : (Instr.loadAt 23 (.pointer (some ⟨q, 0, none⟩))).run Tryz.prog w' = .ok (.agg #[.int .i64 (D : Int), .int .i64 (L : Int), .int .i64 (G : Int)]) w' := by
        simp only [Instr.loadAt, Instr.sureAddr, Sem.run_bind, Sem.run_pure, Result.andThen_ok, run_loadVar_row w' q 23 23 #[.int .i64 (D : Int), .int .i64 (L : Int), .int .i64 (G : Int)] (0, 0) _ hq' Tryz.underlying23 rfl (by kernel_rfl)]
      exact op_val (v := .agg #[.int .i64 D, .int .i64 L, .int .i64 G]) (by simp [execOp, show o.op = Op.load 23 (.tmp 4) from ho, u0, hld]) hdst ⟨hB, rfl, fun _ _ _ q => q⟩
    | 2, _ => exact fun o a' w' Dn hg ho hdst hk hDi hcl hdep hB hV => op_val (run_op_move ho ((hk.slot 2 (by omega)).trans e2) w') hdst ⟨hB, rfl, fun _ _ _ q => q⟩
    | 3, _ =>
      intro o a' w' Dn hg ho hdst hk hDi hcl hdep hB hV
      have u0 : a'.eval (.tmp 9) = .int .i64 n := hV 2 (hdep 2 (by decide))
      refine op_call (f := 26) (args := #[.int .i64 n]) (w1 := w') (by simp only [execOp, show o.op = Op.call { callee := Callee.value (Operand.func 26), args := #[Operand.tmp 9], argTypes := #[3] } from ho]; go_simp; simpa [Act.eval] using u0) hdst (newShelf_any n w') ?_
      rintro e w'' ⟨b, rfl, hb, hbw⟩
      exact ⟨_, rfl, hB.trans (hbw.mono hB.size), ⟨b, rfl⟩, fun j u _ h => hst w' w'' hbw j u h⟩
    | 4, _ =>
      intro o a' w' Dn hg ho hdst hk hDi hcl hdep hB hV
      have u0 : a'.eval (.tmp 7) = .pointer (some ⟨p, 0, none⟩) := hV 0 (hdep 0 (by decide))
      have u1 : a'.eval (.tmp 8) = .agg #[.int .i64 D, .int .i64 L, .int .i64 G] := hV 1 (hdep 1 (by decide))
      obtain ⟨b, u2⟩ : VVn w p D L G n 3 (a'.eval (.tmp 10)) w' := hV 3 (hdep 3 (by decide))
      exact op_val (v := .agg #[.pointer (some ⟨p, 0, none⟩), .int .i64 D, .int .i64 L, .int .i64 G, .pointer (some ⟨b, 0, none⟩), .int .u64 0]) (by simp only [execOp, show o.op = Op.build 91 #[(0, Operand.tmp 7), (1, Operand.tmp 8), (2, Operand.tmp 10)] from ho, List.map_toArray, List.map_cons, List.map_nil, u0, u1, u2]; go_simp) hdst ⟨hB, ⟨b, rfl⟩, fun _ _ _ q => q⟩
    | 5, _ =>
      intro o a' w' Dn hg ho hdst hk hDi hcl hdep hB hV
      obtain ⟨b, u0⟩ : VVn w p D L G n 4 (a'.eval (.tmp 11)) w' := hV 4 (hdep 4 (by decide))
      have hba : Below w'.heap.size w' (w'.alloc (.cells #[.pointer (some ⟨p, 0, none⟩), .int .i64 D, .int .i64 L, .int .i64 G, .pointer (some ⟨b, 0, none⟩), .int .u64 0] 91)) := (Below.refl _ w').alloc (Nat.le_refl _) _
      exact op_val (v := .pointer (some ⟨w'.heap.size, 0, none⟩)) (w' := w'.alloc (.cells #[.pointer (some ⟨p, 0, none⟩), .int .i64 D, .int .i64 L, .int .i64 G, .pointer (some ⟨b, 0, none⟩), .int .u64 0] 91)) (by simp only [execOp, show o.op = Op.box 91 (.tmp 11) from ho, u0]; go_simp) hdst ⟨hB.trans (hba.mono hB.size), ⟨_, b, rfl, hB.size, blk_alloc_new _ _⟩, fun j u _ h => hst w' _ hba j u h⟩
    | 6, _ =>
      intro o a' w' Dn hg ho hdst hk hDi hcl hdep hB hV
      obtain ⟨v, b, u0, h1, h2⟩ : VVn w p D L G n 5 (a'.eval (.tmp 12)) w' := hV 5 (hdep 5 (by decide))
      exact op_val (v := .pointer (some ⟨v, 0, none⟩)) (by simp [execOp, show o.op = Op.assign (.tmp 12) from ho, u0]) hdst ⟨hB, ⟨v, b, rfl, h1, h2⟩, fun _ _ _ q => q⟩
    | n + 7, hn => exact absurd hn (by show ¬ n + 7 < 7; omega)
  · rintro a' w' hk' ⟨Dn, hD, hB⟩ hV
    obtain ⟨v, b, u0, h1, h2⟩ : VVn w p D L G n 6 (a'.eval (.tmp 6)) w' := hV 6 (by decide)
    have e : a' = Act.putFrom a 6 (.pointer (some ⟨v, 0, none⟩) :: (List.range 6).map fun i => a'.eval (.tmp (7 + i))) := hk'.out _ (by simp) (by omega) (fun i hi => by
      simp at hi
      cases i with
      | zero => exact u0
      | succ i =>
        rw [List.getD_cons_succ, List.getD_eq_getElem?_getD, List.getElem?_map, List.getElem?_range (by omega), show 6 + (i + 1) = 7 + i by omega]; rfl)
    rw [e]
    exact hQ w' _ v b (by rw [List.length_map, List.length_range]) h1 h2 hB
set_option maxRecDepth 100000 in
set_option maxHeartbeats 1000000 in
theorem volNew_any (p D L G : Nat) (n : Int) (w : World) : Calls Tryz.prog 18 #[.pointer (some ⟨p, 0, none⟩), .agg #[.int .i64 D, .int .i64 L, .int .i64 G], .int .i64 n] w fun e w' => ∃ v b, e = .returned (.pointer (some ⟨v, 0, none⟩)) ∧ w.heap.size ≤ v ∧ VolAt w' v p D L G b 0 ∧ Below w.heap.size w w' := by
  have hq := blk_alloc_new w (.cells #[.int .i64 (D : Int), .int .i64 (L : Int), .int .i64 (G : Int)] 23)
  have hbw : Below w.heap.size w (w.alloc (.cells #[.int .i64 (D : Int), .int .i64 (L : Int), .int .i64 (G : Int)] 23)) := (Below.refl _ w).alloc (Nat.le_refl _) _
  have hz : (w.alloc (.cells #[.int .i64 (D : Int), .int .i64 (L : Int), .int .i64 (G : Int)] 23)).heap.size = w.heap.size + 1 := by simp
  go_enter Tryz.func18, Tryz.ntmps18
  go_wp2_with fail
  refine volNew_region (by kernel_rfl) hq rfl rfl rfl rfl ?_
  intro w' vs v b hvs hv hV hb
  obtain ⟨x0, x1, x2, x3, x4, x5, rfl⟩ := list6 hvs
  rw [hz] at hv hb
  have H := hide (And.intro hV (hbw.trans (hb.mono (by omega))))
  clear hV hb hbw hq hz hvs
  rename_i hK
  refine hK _ _ ?_
  clear hK
  simp only [Act.putFrom, Act.put, List.setIfInBounds_toArray, List.set_cons_succ, List.set_cons_zero]
  go_wp2
  go_ret
  exact ⟨v, b, rfl, by omega, H.out.1, H.out.2⟩
end Go.Proofs.YtogdeaaphdlchaaGreatDoor
/-
  errors.As at the program's own kind of error (after the guide's worked example of errors.As at a concrete target), and Tell.
-/
namespace Go.Proofs.YtogdeaaphdlchaaGreatDoor
open Go.RowKit Go.Deep Go.Extern.Stop Go.Stop Go.Extern

theorem Tryz.valueOfP (t : Addr) (w : World) : (ReflectliteValue.unpack (.iface 57 (.pointer (some t)))).run Tryz.prog w
    = .ok (.agg #[.pointer (some ⟨3, 57, none⟩), .pointer (some ⟨w.heap.size, 0, none⟩), .int .u64 150]) (w.alloc (.cells #[.pointer (some t)] 57)) := by kernel_rfl
theorem Tryz.typeP (a : Addr) (w : World) : (ReflectliteValue.methodAny (ReflectliteValue.valueError "reflectlite.Value.Type" 0) (fun t _ _ _ => ReflectliteType.toType t) #[.agg #[.pointer (some ⟨3, 57, none⟩), .pointer (some a), .int .u64 150]]).run Tryz.prog w
    = .ok (.iface 101 (.agg #[.pointer (some ⟨3, 57, none⟩)])) w := by kernel_rfl
theorem Tryz.methodKind (h : Value) (w : World) : (Go.method 412 101 (.agg #[h]) "Kind").run Tryz.prog w = .ok (172, h) w := by kernel_rfl
theorem Tryz.kindP (w : World) : ((ReflectliteType.abiMethod fun t => (fun a : Nat => Value.int IntKind.u8 (a : Int)) <$> Rtype.kind t) #[.pointer (some ⟨3, 57, none⟩)]).run Tryz.prog w = .ok (.int .u8 22) w := by kernel_rfl
theorem Tryz.kindE (w : World) : ((ReflectliteType.abiMethod fun t => (fun a : Nat => Value.int IntKind.u8 (a : Int)) <$> Rtype.kind t) #[.pointer (some ⟨3, 34, none⟩)]).run Tryz.prog w = .ok (.int .u8 2) w := by kernel_rfl

theorem Tryz.partsP (a : Addr) (w : World) : (ReflectliteValue.parts (.agg #[.pointer (some ⟨3, 57, none⟩), .pointer (some a), .int .u64 150])).run Tryz.prog w = .ok (some (57, a, 150)) w := by kernel_rfl
theorem Tryz.isNilP (a p : Addr) (W : World) (ha : W.cell? a = some (.pointer (some p))) :
    (ReflectliteValue.method (ReflectliteValue.valueError "reflectlite.Value.IsNil" 0) ReflectliteValue.isNil #[.agg #[.pointer (some ⟨3, 57, none⟩), .pointer (some a), .int .u64 150]]).run Tryz.prog W = .ok (.bool false) W := by
  refine Eq.trans (congrArg (fun z => Sem.run Tryz.prog z W) (show ReflectliteValue.method _ _ #[.agg #[.pointer (some ⟨3, 57, none⟩), .pointer (some a), .int .u64 150]] = (ReflectliteValue.parts (.agg #[.pointer (some ⟨3, 57, none⟩), .pointer (some a), .int .u64 150]) >>= _) from rfl)) ?_
  simp only [Sem.run_bind, Tryz.partsP, Result.andThen]
  simp [ReflectliteValue.isNil, loadVar, isAgg, underlying, Tryz.underlying57, ha, Result.andThen]

theorem Tryz.methodElem (h : Value) (w : World) : (Go.method 412 101 (.agg #[h]) "Elem").run Tryz.prog w = .ok (185, .agg #[h]) w := by kernel_rfl
theorem Tryz.methodImplements (h : Value) (w : World) : (Go.method 412 101 (.agg #[h]) "Implements").run Tryz.prog w = .ok (186, .agg #[h]) w := by kernel_rfl
theorem Tryz.methodAssignableTo (h : Value) (w : World) : (Go.method 412 101 (.agg #[h]) "AssignableTo").run Tryz.prog w = .ok (183, .agg #[h]) w := by kernel_rfl
theorem Tryz.elemP (w : World) : (ReflectliteType.method ReflectliteType.elem #[.agg #[.pointer (some ⟨3, 57, none⟩)]]).run Tryz.prog w = .ok (.iface 101 (.agg #[.pointer (some ⟨3, 34, none⟩)])) w := by kernel_rfl
theorem Tryz.implementsE (w : World) : (ReflectliteType.relation "Implements" ReflectliteType.implements_ #[.agg #[.pointer (some ⟨3, 34, none⟩)], .iface 101 (.agg #[.pointer (some ⟨3, 29, none⟩)])]).run Tryz.prog w = .ok (.bool true) w := by kernel_rfl
theorem Tryz.typeOfE (v : Value) (w : World) : (ReflectliteType.typeOf #[.iface 34 v]).run Tryz.prog w = .ok (.iface 101 (.agg #[.pointer (some ⟨3, 34, none⟩)])) w := by kernel_rfl
theorem Tryz.assignableE (w : World) : (ReflectliteType.relation "AssignableTo" ReflectliteType.assignableTo #[.agg #[.pointer (some ⟨3, 34, none⟩)], .iface 101 (.agg #[.pointer (some ⟨3, 34, none⟩)])]).run Tryz.prog w = .ok (.bool true) w := by kernel_rfl
theorem Tryz.valueOfE (x : Int) (w : World) : (ReflectliteValue.unpack (.iface 34 (.int .i64 x))).run Tryz.prog w
    = .ok (.agg #[.pointer (some ⟨3, 34, none⟩), .pointer (some ⟨w.heap.size, 0, none⟩), .int .u64 130]) (w.alloc (.cells #[.int .i64 x] 34)) := by kernel_rfl

theorem Tryz.elemOfP (w : World) : (Rtype.elem? 57).run Tryz.prog w = .ok (some 34) w := by kernel_rfl
theorem Tryz.mkE (p : Addr) (w : World) : (ReflectliteValue.mk 34 p ReflectliteValue.flagAddr).run Tryz.prog w = .ok (.agg #[.pointer (some ⟨3, 34, none⟩), .pointer (some p), .int .u64 386]) w := by kernel_rfl
theorem Tryz.elemVP (a p : Addr) (W : World) (ha : W.cell? a = some (.pointer (some p))) :
    (ReflectliteValue.method (ReflectliteValue.valueError "reflectlite.Value.Elem" 0) ReflectliteValue.elem #[.agg #[.pointer (some ⟨3, 57, none⟩), .pointer (some a), .int .u64 150]]).run Tryz.prog W
      = .ok (.agg #[.pointer (some ⟨3, 34, none⟩), .pointer (some p), .int .u64 386]) W := by
  refine Eq.trans (congrArg (fun z => Sem.run Tryz.prog z W) (show ReflectliteValue.method _ _ #[.agg #[.pointer (some ⟨3, 57, none⟩), .pointer (some a), .int .u64 150]] = (ReflectliteValue.parts (.agg #[.pointer (some ⟨3, 57, none⟩), .pointer (some a), .int .u64 150]) >>= _) from rfl)) ?_
  simp only [Sem.run_bind, Tryz.partsP, Result.andThen]
  simp [ReflectliteValue.elem, loadVar, isAgg, underlying, Tryz.underlying57, ha, Result.andThen, Tryz.elemOfP, Tryz.mkE]
theorem Tryz.partsEa (a : Addr) (w : World) : (ReflectliteValue.parts (.agg #[.pointer (some ⟨3, 34, none⟩), .pointer (some a), .int .u64 386])).run Tryz.prog w = .ok (some (34, a, 386)) w := by kernel_rfl
theorem Tryz.partsE (a : Addr) (w : World) : (ReflectliteValue.parts (.agg #[.pointer (some ⟨3, 34, none⟩), .pointer (some a), .int .u64 130])).run Tryz.prog w = .ok (some (34, a, 130)) w := by kernel_rfl
theorem Tryz.directE (w : World) : (Rtype.directlyAssignable 34 34).run Tryz.prog w = .ok true w := by kernel_rfl
theorem Tryz.sizeE (w : World) : (sizeOf 34).run Tryz.prog w = .ok 1 w := by kernel_rfl
theorem Tryz.setE (ta b : Addr) (x : Int) (old : Value) (W : World) (hb : W.cell? b = some (.int .i64 x)) (ht : W.cell? ta = some old) (hf : W.frozen? ta = false) :
    (ReflectliteValue.set #[.agg #[.pointer (some ⟨3, 34, none⟩), .pointer (some ta), .int .u64 386], .agg #[.pointer (some ⟨3, 34, none⟩), .pointer (some b), .int .u64 130]]).run Tryz.prog W
      = .ok (.tuple #[]) (W.setCell ta (.int .i64 x)) := by
  refine Eq.trans (congrArg (fun z => Sem.run Tryz.prog z W) (show ReflectliteValue.set #[.agg #[.pointer (some ⟨3, 34, none⟩), .pointer (some ta), .int .u64 386], .agg #[.pointer (some ⟨3, 34, none⟩), .pointer (some b), .int .u64 130]] = (ReflectliteValue.parts (.agg #[.pointer (some ⟨3, 34, none⟩), .pointer (some ta), .int .u64 386]) >>= fun p => ReflectliteValue.parts (.agg #[.pointer (some ⟨3, 34, none⟩), .pointer (some b), .int .u64 130]) >>= (_ : _ → Sem Value)) from rfl)) ?_
  simp only [Sem.run_bind, Tryz.partsEa, Tryz.partsE, Result.andThen]
  simp [ReflectliteValue.flagAddr, loadVar, isAgg, underlying, Tryz.underlying34, hb, Result.andThen, Tryz.directE, storeVar, Value.cells, storeCells, Addr.add]
  rw [run_store Tryz.prog W ta _ _ (by rfl)]
  simp [ht, hf]

set_option maxRecDepth 100000 in
set_option maxHeartbeats 4000000 in
theorem as_hit (x : Int) (t : Addr) (old : Value) (w : World) (hg : w.cell? ⟨0, 0, none⟩ = some (.iface 101 (.agg #[.pointer (some ⟨3, 29, none⟩)]))) (ht0 : w.cell? t = some old) (hf0 : w.frozen? t = false) :
    Calls Tryz.prog 12 #[.iface 34 (.int .i64 x), .iface 57 (.pointer (some t))] w fun ev w' => ev = .returned (.bool true) ∧ w' = ((((w.alloc (.cells #[.pointer (some t)] 57)).alloc (.cells #[.pointer (some ⟨3, 57, none⟩), .pointer (some ⟨w.heap.size, 0, none⟩), .int .u64 150] 74)).alloc (.cells #[.pointer (some ⟨3, 57, none⟩), .pointer (some ⟨w.heap.size, 0, none⟩), .int .u64 150] 74)).alloc (.cells #[.int .i64 x] 34)).setCell t (.int .i64 x) := by
  have h6 := @run_callFunc_extern Tryz.prog 21 _ (fun args => ReflectliteValue.unpack (args.getD 0 (.tuple #[]))) Tryz.func21 (by kernel_rfl) (by kernel_rfl) (by kernel_rfl) (by kernel_rfl)
  have h7 := @run_callFunc_extern Tryz.prog 22 _ (ReflectliteValue.methodAny (ReflectliteValue.valueError "reflectlite.Value.Type" 0) (fun t _ _ _ => ReflectliteType.toType t)) Tryz.func22 (by kernel_rfl) (by kernel_rfl) (by kernel_rfl) (by kernel_rfl)
  have h8 := @run_callFunc_extern Tryz.prog 23 _ (ReflectliteValue.method (ReflectliteValue.valueError "reflectlite.Value.IsNil" 0) ReflectliteValue.isNil) Tryz.func23 (by kernel_rfl) (by kernel_rfl) (by kernel_rfl) (by kernel_rfl)
  have h27 := @run_callFunc_extern Tryz.prog 172 _ (ReflectliteType.abiMethod fun t => do pure (.int .u8 (← Rtype.kind t))) Tryz.func172 (by kernel_rfl) (by kernel_rfl) (by kernel_rfl) (by kernel_rfl)
  have h37 := @run_callFunc_extern Tryz.prog 185 _ (ReflectliteType.method ReflectliteType.elem) Tryz.func185 (by kernel_rfl) (by kernel_rfl) (by kernel_rfl) (by kernel_rfl)
  have h38 := @run_callFunc_extern Tryz.prog 186 _ (ReflectliteType.relation "Implements" ReflectliteType.implements_) Tryz.func186 (by kernel_rfl) (by kernel_rfl) (by kernel_rfl) (by kernel_rfl)
  have h10 := @run_callFunc_extern Tryz.prog 36 _ ReflectliteType.typeOf Tryz.func36 (by kernel_rfl) (by kernel_rfl) (by kernel_rfl) (by kernel_rfl)
  have h35 := @run_callFunc_extern Tryz.prog 183 _ (ReflectliteType.relation "AssignableTo" ReflectliteType.assignableTo) Tryz.func183 (by kernel_rfl) (by kernel_rfl) (by kernel_rfl) (by kernel_rfl)
  have h11 := @run_callFunc_extern Tryz.prog 37 _ (ReflectliteValue.method (ReflectliteValue.valueError "reflectlite.Value.Elem" 0) ReflectliteValue.elem) Tryz.func37 (by kernel_rfl) (by kernel_rfl) (by kernel_rfl) (by kernel_rfl)
  have h12 := @run_callFunc_extern Tryz.prog 38 _ ReflectliteValue.set Tryz.func38 (by kernel_rfl) (by kernel_rfl) (by kernel_rfl) (by kernel_rfl)
  have tO := Tryz.typeOfE
  have mA := Tryz.methodAssignableTo
  have aE := Tryz.assignableE
  have vE := Tryz.valueOfE
  have f6 := Tryz.valueOfP
  have f7 := Tryz.typeP
  have mK := Tryz.methodKind
  have mE := Tryz.methodElem
  have mI := Tryz.methodImplements
  have kP := Tryz.kindP
  have kE := Tryz.kindE
  have eP := Tryz.elemP
  have iE := Tryz.implementsE
  have n8 := Tryz.isNilP ⟨w.heap.size, 0, none⟩ t ((w.alloc (.cells #[.pointer (some t)] 57)).alloc (.cells #[.pointer (some ⟨3, 57, none⟩), .pointer (some ⟨w.heap.size, 0, none⟩), .int .u64 150] 74)) (by simp)
  have hlt : 0 < w.heap.size := by
    rcases Nat.eq_zero_or_pos w.heap.size with h0 | h
    · simp [World.cell?, h0] at hg
    · exact h
  have hg2 : ((w.alloc (.cells #[.pointer (some t)] 57)).alloc (.cells #[.pointer (some ⟨3, 57, none⟩), .pointer (some ⟨w.heap.size, 0, none⟩), .int .u64 150] 74)).cell? ⟨0, 0, none⟩ = some (.iface 101 (.agg #[.pointer (some ⟨3, 29, none⟩)])) := by
    rw [World.cell?_alloc_lt _ _ ⟨0, 0, none⟩ (by simp), World.cell?_alloc_lt _ _ ⟨0, 0, none⟩ hlt]; exact hg
  have htl : t.block < w.heap.size := by
    rcases Nat.lt_or_ge t.block w.heap.size with h | h
    · exact h
    · simp [World.cell?, Array.getElem?_eq_none h] at ht0
  have el := Tryz.elemVP ⟨w.heap.size, 0, none⟩ t (((w.alloc (.cells #[.pointer (some t)] 57)).alloc (.cells #[.pointer (some ⟨3, 57, none⟩), .pointer (some ⟨w.heap.size, 0, none⟩), .int .u64 150] 74)).alloc (.cells #[.pointer (some ⟨3, 57, none⟩), .pointer (some ⟨w.heap.size, 0, none⟩), .int .u64 150] 74)) (by rw [World.cell?_alloc_lt _ _ ⟨w.heap.size, 0, none⟩ (by simp; omega)]; simp)
  have st := Tryz.setE t ⟨w.heap.size + 1 + 1 + 1, 0, none⟩ x old ((((w.alloc (.cells #[.pointer (some t)] 57)).alloc (.cells #[.pointer (some ⟨3, 57, none⟩), .pointer (some ⟨w.heap.size, 0, none⟩), .int .u64 150] 74)).alloc (.cells #[.pointer (some ⟨3, 57, none⟩), .pointer (some ⟨w.heap.size, 0, none⟩), .int .u64 150] 74)).alloc (.cells #[.int .i64 x] 34))
    (by rw [World.cell?_alloc_at _ _ _ _ (by simp)]; rfl)
    (by rw [World.cell?_alloc_lt _ _ t (by simp; omega), World.cell?_alloc_lt _ _ t (by simp; omega), World.cell?_alloc_lt _ _ t (by simp; omega), World.cell?_alloc_lt _ _ t htl]; exact ht0)
    (by rw [World.frozen?_alloc_old _ _ t (by simp; omega), World.frozen?_alloc_old _ _ t (by simp; omega), World.frozen?_alloc_old _ _ t (by simp; omega), World.frozen?_alloc_old _ _ t (Nat.ne_of_lt htl)]; exact hf0)
  go_enter Tryz.func12, Tryz.ntmps12
  go_wp2
  refine wp_loop_rounds 1 ?_
  rw [rounds_succ]
  go_wp2
  go_ret
  exact ⟨rfl, rfl⟩

set_option maxRecDepth 100000 in
set_option maxHeartbeats 4000000 in
theorem tell_nil (w : World) :
    Calls Tryz.prog 6 #[.nilIface] w fun e w' => e = .returned (.int .i64 0) ∧ Below w.heap.size w w' := by
  go_enter Tryz.func6, Tryz.ntmps6
  go_wp2
  go_ret
  exact ⟨rfl, (Below.refl _ _).alloc (Nat.le_refl _) _⟩
set_option maxRecDepth 100000 in
set_option maxHeartbeats 4000000 in
theorem tell_errno (x : Int) (w : World) (hg : w.cell? ⟨0, 0, none⟩ = some (.iface 101 (.agg #[.pointer (some ⟨3, 29, none⟩)]))) :
    Calls Tryz.prog 6 #[.iface 34 (.int .i64 x)] w fun e w' => e = .returned (.int .i64 x) ∧ Below w.heap.size w w' := by
  have hlt : 0 < w.heap.size := by
    rcases Nat.eq_zero_or_pos w.heap.size with h0 | h
    · simp [World.cell?, h0] at hg
    · exact h
  have hg2 : (w.alloc (.cells #[.int .i64 0] 34)).cell? ⟨0, 0, none⟩ = some (.iface 101 (.agg #[.pointer (some ⟨3, 29, none⟩)])) := by
    rw [World.cell?_alloc_lt _ _ ⟨0, 0, none⟩ hlt]; exact hg
  go_enter Tryz.func6, Tryz.ntmps6
  go_wp2_with (go_at_call 12; refine (as_hit x ⟨w.heap.size, 0, none⟩ (.int .i64 0) _ hg2 (by simp) (by simp)).mono ?_; rintro e w' ⟨rfl, rfl⟩)
  go_ret
  refine ⟨rfl, ?_⟩
  repeat (first | exact Below.refl _ _ | refine Below.setCell ?_ (by simp) _ | refine Below.alloc ?_ (by (try simp only [nblk_alloc]); omega) _)
end Go.Proofs.YtogdeaaphdlchaaGreatDoor
/-
  errors.Is of the project's own errors.
-/
namespace Go.Proofs.YtogdeaaphdlchaaGreatDoor
open Go.RowKit Go.Deep

theorem Tryz.infoErrno : (Tryz.prog.info? 34).map (fun i => i.comparable) = some true := by kernel_rfl
theorem eql_errno (n m : Int) (w : World) : (binOp .eql 29 (.iface 34 (.int .i64 n)) (.iface 34 (.int .i64 m))).run Tryz.prog w = .ok (.bool (n == m)) w := by
  obtain ⟨i, hi, hc⟩ := Option.map_eq_some_iff.1 Tryz.infoErrno
  have h1 : ∀ d, (Op.equalIn (d + 1) 34 (.int .i64 n) (.int .i64 m)).run Tryz.prog w = .ok (n == m) w := fun d => run_equalIn_int (w := w) d 34 .i64 .i64 n m Tryz.underlying34
  have h2 : ∀ d, (Op.equalIn (d + 1 + 1) 29 (.iface 34 (.int .i64 n)) (.iface 34 (.int .i64 m))).run Tryz.prog w = .ok (n == m) w := fun d => by
    rw [Op.equalIn]
    simp [Sem.run_bind, run_underlying Tryz.underlying29, Result.andThen_ok, typeInfo, hi, hc, h1 d]
  have he := h2 9998
  simp only [binOp]
  simp [Op.equal, Op.maxDepth, he]
set_option maxRecDepth 100000 in
set_option maxHeartbeats 4000000 in
theorem is2_errno (n : Int) (hn : n ≠ 13) (w : World) : Calls Tryz.prog 41 #[.iface 34 (.int .i64 n), .iface 34 (.int .i64 13), .bool true] w fun e w' => e = .returned (.bool false) ∧ w' = w := by
  have h1 : ∀ w, (binOp .eql 29 (.iface 34 (.int .i64 n)) (.iface 34 (.int .i64 13))).run Tryz.prog w = .ok (.bool false) w := fun w => by rw [eql_errno]; simp [hn]
  have a1 : ∀ w : World, (Instr.typeAssert (.iface 34 (.int .i64 n)) 29 153 true).run Tryz.prog w = .ok (.tuple #[.nilIface, .bool false]) w := fun w => run_typeAssert_lacksB Tryz.underlying153 (by kernel_rfl) (by kernel_rfl) _ _ w
  have a2 : ∀ w : World, (Instr.typeAssert (.iface 34 (.int .i64 n)) 29 109 true).run Tryz.prog w = .ok (.tuple #[.nilIface, .bool false]) w := fun w => run_typeAssert_lacksB Tryz.underlying109 (by kernel_rfl) (by kernel_rfl) _ _ w
  have a3 : ∀ w : World, (Instr.typeAssert (.iface 34 (.int .i64 n)) 29 110 true).run Tryz.prog w = .ok (.tuple #[.nilIface, .bool false]) w := fun w => run_typeAssert_lacksB Tryz.underlying110 (by kernel_rfl) (by kernel_rfl) _ _ w
  go_enter Tryz.func41, Tryz.ntmps41
  go_wp2
  refine wp_loop_rounds 1 ?_
  rw [rounds_succ]
  go_wp2
  go_ret
  exact ⟨rfl, rfl⟩
set_option maxRecDepth 100000 in
set_option maxHeartbeats 1000000 in
theorem is_errno (n : Int) (hn : n ≠ 13) (w : World) : Calls Tryz.prog 28 #[.iface 34 (.int .i64 n), .iface 34 (.int .i64 13)] w fun e w' => e = .returned (.bool false) ∧ w' = w := by
  have ht := Tryz.typeOfE (.int .i64 13)
  have h10 := @run_callFunc_extern Tryz.prog 36 _ Extern.ReflectliteType.typeOf Tryz.func36 (by kernel_rfl) (by kernel_rfl) (by kernel_rfl) (by kernel_rfl)
  have mC : ∀ (h : Value) (w : World), (Go.method 412 101 (.agg #[h]) "Comparable").run Tryz.prog w = .ok (184, .agg #[h]) w := fun h w => by kernel_rfl
  have hC : ∀ w : World, (callFunc 184 #[.agg #[.pointer (some ⟨3, 34, none⟩)]]).run Tryz.prog w = .ok (.value (.bool true)) w := fun w => by kernel_rfl
  go_enter Tryz.func28, Tryz.ntmps28
  go_wp2_with fail
  refine (is2_errno n hn w).mono ?_
  rintro e w' ⟨rfl, rfl⟩
  go_wp2
  go_ret
  exact ⟨rfl, rfl⟩
end Go.Proofs.YtogdeaaphdlchaaGreatDoor
/-
  What an archive does while there is power.
-/
namespace Go.Proofs.YtogdeaaphdlchaaGreatDoor
open Go.RowKit Go.Deep

/-- an archive's own cells -/
def arcA (v D L G t f n : Nat) (pg ob : Value) (off : Bool) : Array Value := #[.pointer (some ⟨v, 0, none⟩), .int .i64 D, .int .i64 L, .int .i64 G, .int .u64 t, .int .i64 f, .int .i64 n, pg, ob, .bool off]
def ArcAt (w : World) (a v D L G t f n : Nat) (pg ob : Value) (off : Bool) : Prop := w.heap[a]? = some (.cells (arcA v D L G t f n pg ob off) 68 (0, 0))
/-- an error that is no cut of the power -/
def noCut (v : Value) : Prop := v = .nilIface ∨ ∃ n : Int, n ≠ 13 ∧ v = .iface 34 (.int .i64 n)
theorem noCut.isErr {v : Value} (h : noCut v) : isErr v := by
  rcases h with h | ⟨n, _, h⟩
  · exact .inl h
  · exact .inr ⟨_, _, h⟩
set_option maxRecDepth 100000 in
set_option maxHeartbeats 2000000 in
theorem arcPowered_ok (k : FuncId) (first cap : Array Value) (hcf : ∀ (args : Array Value) (w : World), (callFunc k args).run Tryz.prog w = .ok (.enter k args) w) (w : World) (a : Nat) (cs : Array Value) (ha : w.heap[a]? = some (.cells cs 68 (0, 0))) (h9 : cs[9]? = some (.bool false)) (R : World → Value → World → Prop)
    (hdo : ∀ w1, Below w.heap.size w w1 → w1.heap.size = w.heap.size + 1 → Calls Tryz.prog k (first ++ cap) w1 fun e w2 => ∃ v, e = .returned v ∧ noCut v ∧ R w1 v w2 ∧ w2.heap[w.heap.size]? = w1.heap[w.heap.size]? ∧ ∃ cs', w2.heap[a]? = some (.cells cs' 68 (0, 0)) ∧ cs'[9]? = some (.bool false)) :
    Calls Tryz.prog 19 #[.pointer (some ⟨a, 0, none⟩), .func (.func k) first cap] w fun e w' => ∃ v w1 w2, e = .returned v ∧ noCut v ∧ Below w.heap.size w w1 ∧ w1.heap.size = w.heap.size + 1 ∧ R w1 v w2 ∧ w' = (w2.setCell ⟨w.heap.size, 0, none⟩ v).setCell ⟨a, 9, none⟩ (.bool false) := by
  have hal : a < w.heap.size := (Array.getElem?_eq_some_iff.1 ha).1
  have c9 : w.cell? ⟨a, 9, none⟩ = some (.bool false) := by simp [World.cell?, ha, h9]
  have hP := powered_ok k first cap hcf w (fun w1 v w2 => noCut v ∧ R w1 v w2 ∧ ∃ cs', w2.heap[a]? = some (.cells cs' 68 (0, 0)) ∧ cs'[9]? = some (.bool false)) (fun w1 h1 h2 => (hdo w1 h1 h2).mono (by
    rintro e w2 ⟨v, rfl, h3, h4, h5, h6⟩
    exact ⟨v, rfl, h3.isErr, ⟨h3, h4, h6⟩, h5⟩))
  go_enter Tryz.func19, Tryz.ntmps19
  go_wp2_with fail
  refine hP.mono ?_
  rintro e w3 ⟨v, w1, w2, rfl, _, hb1, hz1, ⟨hnc, hR, cs', ha', h9'⟩, rfl⟩
  have ha3 : (w2.setCell ⟨w.heap.size, 0, none⟩ v).heap[a]? = some (.cells cs' 68 (0, 0)) := (blk_setCell_other _ _ _ _ (by show a ≠ w.heap.size; omega)).trans ha'
  obtain ⟨w3, hw3⟩ : ∃ w3, w2.setCell ⟨w.heap.size, 0, none⟩ v = w3 := ⟨_, rfl⟩
  rw [hw3] at ha3 ⊢
  have d9 : w3.cell? ⟨a, 9, none⟩ = some (.bool false) := by simp [World.cell?, ha3, h9']
  have f9 : w3.frozen? ⟨a, 9, none⟩ = false := by simp [World.frozen?, ha3]
  have H := hide (And.intro hb1 (And.intro hz1 (And.intro hR (And.intro hnc hw3))))
  clear hb1 hz1 hR hP hdo ha3 h9' ha' hw3
  rcases hnc with rfl | ⟨n, hn, rfl⟩
  · go_wp2_with fail
    refine (is_nil 13 w3).mono ?_
    rintro e w' ⟨rfl, rfl⟩
    go_wp2
    go_ret
    obtain ⟨q1, q2, q3, q4, q5⟩ := H.out
    exact ⟨.nilIface, w1, w2, rfl, q4, q1, q2, q3, by rw [q5]⟩
  · go_wp2_with fail
    refine (is_errno n hn w3).mono ?_
    rintro e w' ⟨rfl, rfl⟩
    go_wp2
    go_ret
    obtain ⟨q1, q2, q3, q4, q5⟩ := H.out
    exact ⟨.iface 34 (.int .i64 n), w1, w2, rfl, q4, q1, q2, q3, by rw [q5]⟩
end Go.Proofs.YtogdeaaphdlchaaGreatDoor
/-
  An archive's smaller calls; a catalog without objects.
-/
namespace Go.Proofs.YtogdeaaphdlchaaGreatDoor
open Go.RowKit Go.Deep

theorem ArcAt.cells {w : World} {a v D L G t f n : Nat} {pg ob : Value} {off : Bool} (h : ArcAt w a v D L G t f n pg ob off) : w.cell? ⟨a, 0, none⟩ = some (.pointer (some ⟨v, 0, none⟩)) ∧ w.cell? ⟨a, 4, none⟩ = some (.int .u64 t) ∧ w.cell? ⟨a, 6, none⟩ = some (.int .i64 n) ∧ w.cell? ⟨a, 7, none⟩ = some pg ∧ w.cell? ⟨a, 8, none⟩ = some ob := by
  have h' : w.heap[a]? = some (.cells (arcA v D L G t f n pg ob off) 68 (0, 0)) := h
  simp [World.cell?, h', arcA]
theorem ArcAt.keep {w w' : World} {ar v D' L' G' t' f' n' : Nat} {pg ob : Value} {off : Bool} (h : ArcAt w ar v D' L' G' t' f' n' pg ob off) (e : w'.heap[ar]? = w.heap[ar]?) : ArcAt w' ar v D' L' G' t' f' n' pg ob off := Eq.trans e h
theorem ArcAt.lt {w : World} {ar v D' L' G' t' f' n' : Nat} {pg ob : Value} {off : Bool} (h : ArcAt w ar v D' L' G' t' f' n' pg ob off) : ar < w.heap.size := (Array.getElem?_eq_some_iff.1 h).1
set_option maxRecDepth 100000 in
set_option maxHeartbeats 1000000 in
theorem volParams_at {w : World} {v p D L G ps ho : Nat} (h : VolAt w v p D L G ps ho) : Calls Tryz.prog 31 #[.pointer (some ⟨v, 0, none⟩)] w fun e w' => e = .returned (.agg #[.int .i64 D, .int .i64 L, .int .i64 G]) ∧ Below w.heap.size w w' ∧ w'.heap.size = w.heap.size + 1 ∧ w'.heap[w.heap.size]? = some (.cells #[.int .i64 D, .int .i64 L, .int .i64 G] 23 (0, 0)) := by
  have hvl := h.lt
  have h1 : VolAt (w.alloc (.cells #[.int .i64 0, .int .i64 0, .int .i64 0] 23)) v p D L G ps ho := h.keep (blk_alloc_lt _ _ _ hvl)
  obtain ⟨c0, c1, c2, c3, c4⟩ := h1.cells
  have hb : Below w.heap.size w (w.alloc (.cells #[.int .i64 0, .int .i64 0, .int .i64 0] 23)) := (Below.refl _ w).alloc (Nat.le_refl _) _
  have ht := blk_alloc_new w (.cells #[.int .i64 0, .int .i64 0, .int .i64 0] 23)
  obtain ⟨w1, hw1⟩ : ∃ w1, w.alloc (.cells #[.int .i64 0, .int .i64 0, .int .i64 0] 23) = w1 := ⟨_, rfl⟩
  rw [hw1] at c0 c1 c2 c3 c4 hb ht
  have r0 : w1.cell? ⟨w.heap.size, 0, none⟩ = some (.int .i64 0) := by simp [World.cell?, ht]
  have r1 : w1.cell? ⟨w.heap.size, 1, none⟩ = some (.int .i64 0) := by simp [World.cell?, ht]
  have r2 : w1.cell? ⟨w.heap.size, 2, none⟩ = some (.int .i64 0) := by simp [World.cell?, ht]
  have rf : ∀ k, w1.frozen? ⟨w.heap.size, k, none⟩ = false := fun k => by simp [World.frozen?, ht]
  have f0 := rf 0
  have f1 := rf 1
  have f2 := rf 2
  have hz1 : w1.heap.size = w.heap.size + 1 := by rw [← hw1]; simp
  have H := hide (And.intro hb (And.intro ht hz1))
  clear h1 hb ht rf h hz1
  go_enter Tryz.func31, Tryz.ntmps31
  go_wp2
  have hh := heap_setCell_at (j := 2) (heap_setCell_at (j := 1) (heap_setCell_at (j := 0) H.out.2.1 (.int .i64 (D : Int))) (.int .i64 (L : Int))) (.int .i64 (G : Int))
  refine bodyPost_ret (v := .agg #[.int .i64 D, .int .i64 L, .int .i64 G]) (results_cell_row Tryz.results31 _ _ w.heap.size 23 #[.int .i64 (D : Int), .int .i64 (L : Int), .int .i64 (G : Int)] (0, 0) _ rfl hh Tryz.underlying23 rfl (by kernel_rfl)) rfl ?_
  exact ⟨rfl, ((H.out.1.setCell (p := ⟨w.heap.size, 0, none⟩) (Nat.le_refl _) _).setCell (p := ⟨w.heap.size, 1, none⟩) (Nat.le_refl _) _).setCell (p := ⟨w.heap.size, 2, none⟩) (Nat.le_refl _) _, by simp [World.setCell, H.out.2.2], hh⟩
theorem volParams_any {w : World} {v p D L G ps ho : Nat} (h : VolAt w v p D L G ps ho) : Calls Tryz.prog 31 #[.pointer (some ⟨v, 0, none⟩)] w fun e w' => e = .returned (.agg #[.int .i64 D, .int .i64 L, .int .i64 G]) ∧ Below w.heap.size w w' := (volParams_at h).mono fun _ _ q => ⟨q.1, q.2.1⟩
set_option maxRecDepth 100000 in
set_option maxHeartbeats 1000000 in
theorem stripeSize_any {w : World} {v p D L G ps ho : Nat} (h : VolAt w v p D L G ps ho) (hD : D ≤ 1000) : Calls Tryz.prog 59 #[.pointer (some ⟨v, 0, none⟩)] w fun e w' => e = .returned (.int .i64 ((D * 44 : Nat) : Int)) ∧ w' = w := by
  obtain ⟨c0, c1, c2, c3, c4⟩ := h.cells
  have e1 : ((D * 44 : Nat) : Int) = (D : Int) * 44 := by omega
  rw [e1]
  go_enter Tryz.func59, Tryz.ntmps59
  go_wp2
  go_ret
  exact ⟨rfl, rfl⟩
set_option maxRecDepth 100000 in
set_option maxHeartbeats 1000000 in
theorem pageSize_any {w : World} {a v p D L G ps ho D' L' G' t f n : Nat} {pg ob : Value} {off : Bool} (ha : ArcAt w a v D' L' G' t f n pg ob off) (h : VolAt w v p D L G ps ho) (hD1 : 1 ≤ D) (hD : D ≤ 1000) : Calls Tryz.prog 72 #[.pointer (some ⟨a, 0, none⟩)] w fun e w' => e = .returned (.int .i64 ((D * 44 - 4 : Nat) : Int)) ∧ w' = w := by
  obtain ⟨c0, _⟩ := ha.cells
  have e1 : ((D * 44 - 4 : Nat) : Int) = ((D * 44 : Nat) : Int) - 4 := by omega
  rw [e1]
  have hs := stripeSize_any h hD
  have b1 : D * 44 ≤ 44000 := by omega
  generalize D * 44 = q at *
  go_enter Tryz.func72, Tryz.ntmps72
  go_wp2_with fail
  refine hs.mono ?_
  rintro e w' ⟨rfl, rfl⟩
  go_wp2
  go_ret
  exact ⟨rfl, rfl⟩
set_option maxRecDepth 100000 in
set_option maxHeartbeats 1000000 in
theorem length_nil (w : World) : Calls Tryz.prog 92 #[.slice none 0 0] w fun e w' => e = .returned (.int .i64 0) ∧ w' = w := by
  go_enter Tryz.func92, Tryz.ntmps92
  go_wp2
  refine wp_loop_rounds 1 ?_
  rw [rounds_succ]
  go_wp2
  go_ret
  exact ⟨rfl, rfl⟩
set_option maxRecDepth 100000 in
set_option maxHeartbeats 1000000 in
theorem pack_nil (w : World) : Calls Tryz.prog 73 #[.slice none 0 0] w fun e w' => (∃ b, e = .returned (.slice (some ⟨b, 0, none⟩) 0 0)) ∧ Below w.heap.size w w' := by
  go_enter Tryz.func73, Tryz.ntmps73
  go_wp2_with fail
  refine (length_nil w).mono ?_
  rintro e w' ⟨rfl, rfl⟩
  have hb : ∀ o, Below w'.heap.size w' (w'.alloc o) := fun o => (Below.refl _ w').alloc (Nat.le_refl _) _
  have H := hide hb
  clear hb
  go_wp2_with (at_make; refine wpList_mk _ rfl (.const (.int .i64 0)) (.tmp 10) rfl _ 0 rfl rfl rfl (by omega) ?_; intro w2 hB hb2 hz2)
  refine wp_loop_rounds 1 ?_
  rw [rounds_succ]
  go_wp2
  go_ret
  exact ⟨⟨_, rfl⟩, hb2⟩
set_option maxRecDepth 100000 in
set_option maxHeartbeats 1000000 in
theorem writePages_nil {w : World} {a v p D L G ps ho D' L' G' t f n : Nat} {pg ob : Value} {off : Bool} (ha : ArcAt w a v D' L' G' t f n pg ob off) (h : VolAt w v p D L G ps ho) (hD1 : 1 ≤ D) (hD : D ≤ 1000) (b : Value) : Calls Tryz.prog 74 #[.pointer (some ⟨a, 0, none⟩), b, .slice none 0 0] w fun e w' => e = .returned .nilIface ∧ w' = w := by
  go_enter Tryz.func74, Tryz.ntmps74
  go_wp2_with fail
  refine (pageSize_any ha h hD1 hD).mono ?_
  rintro e w' ⟨rfl, rfl⟩
  generalize ((D * 44 - 4 : Nat) : Int) = q
  go_wp2
  refine wp_loop_rounds 1 ?_
  rw [rounds_succ]
  go_wp2
  go_ret
  exact ⟨rfl, rfl⟩
end Go.Proofs.YtogdeaaphdlchaaGreatDoor
