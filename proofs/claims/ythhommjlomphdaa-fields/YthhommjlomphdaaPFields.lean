/-
  The proof of the statement on Fields. Its frame is the guide's own shell.
-/
import Derived.Test.YthhommjlomphdaaRows
import Derived.Test.YthhommjlomphdaaFieldTop
import Derived.Test.YthhommjlomphdaaRefField
import Derived.WalkKit
import Derived.ProofKit
import Derived.OpenShut
namespace Go.Proofs.Ythhommjlomphdaa.fields
open Go.ChangeShapes Go.WideShapes Go.ChangeAt Go.RowKit Gf
set_option linter.unusedVariables false      -- a walk need not use every 'w<i>' (that an integer argument fits its kind)

theorem own : ownKnob Try.prog.godebug = none := by kernel_rfl

theorem smul_eq {x y : Int} (a b : Nat) {r : Nat} (hx : x = (a : Int)) (hy : y = (b : Int)) (ha : a < 256) (hb : b < 256) (h : gm a b = r) (w : World) :
    Calls Try.prog 10 #[.int .u8 x, .int .u8 y] w fun e w' => e = .returned (.int .u8 (r : Int)) ∧ w' = w := by
  subst h hx hy; exact smul_any a b ha hb w
theorem sinv_eq {x : Int} (a : Nat) {r : Nat} (hx : x = (a : Int)) (ha : a < 256) (h : gi a = r) (w : World) :
    Calls Try.prog 11 #[.int .u8 x] w fun e w' => e = .returned (.int .u8 (r : Int)) ∧ w' = w := by
  subst h hx; exact sinv_any a ha w
set_option maxRecDepth 100000 in
set_option maxHeartbeats 1000000 in
theorem walk (a0 : Int) (a1 : Int) (a2 : Int) (w0 : (Lit.int .u8 a0).wf = true) (w1 : (Lit.int .u8 a1).wf = true) (w2 : (Lit.int .u8 a2).wf = true) (w : World) :
    Calls Try.prog 4 #[.int .u8 a0, .int .u8 a1, .int .u8 a2] w fun e w' => e = .returned (.bool true) ∧ Grown w w' := by
  obtain ⟨a, ha, rfl⟩ := nat_u8 w0
  obtain ⟨b, hb, rfl⟩ := nat_u8 w1
  obtain ⟨c, hc, rfl⟩ := nat_u8 w2
  have x1 := u8_xor b c hb hc
  have x2 := u8_xor (gm a b) (gm a c) (gm_lt _ ha) (gm_lt _ ha)
  have t1 : (((gm a b : Nat) : Int) == ((gm a b : Nat) : Int)) = true := beq_self_eq_true _
  have t2 : (((gm (gm a b) c : Nat) : Int) == ((gm (gm a b) c : Nat) : Int)) = true := beq_self_eq_true _
  have t3 : (((gm a b ^^^ gm a c : Nat) : Int) == ((gm a b ^^^ gm a c : Nat) : Int)) = true := beq_self_eq_true _
  have t4 : (((a : Nat) : Int) == ((a : Nat) : Int)) = true := beq_self_eq_true _
  go_enter Try.func4, Try.ntmps4
  go_wp2_with fail
  refine (smul_eq a b rfl rfl ha hb rfl _).mono ?_
  rintro e w' ⟨rfl, rfl⟩
  go_wp2_with fail
  refine (smul_eq b a rfl rfl hb ha (gm_comm hb ha) _).mono ?_
  rintro e w' ⟨rfl, rfl⟩
  go_wp2_with fail
  refine (smul_eq b c rfl rfl hb hc rfl _).mono ?_
  rintro e w' ⟨rfl, rfl⟩
  go_wp2_with fail
  refine (smul_eq (gm a b) c rfl rfl (gm_lt _ ha) hc rfl _).mono ?_
  rintro e w' ⟨rfl, rfl⟩
  go_wp2_with fail
  refine (smul_eq a (gm b c) rfl rfl ha (gm_lt _ hb) (gm_assoc ha hb hc).symm _).mono ?_
  rintro e w' ⟨rfl, rfl⟩
  go_wp2_with fail
  refine (smul_eq a c rfl rfl ha hc rfl _).mono ?_
  rintro e w' ⟨rfl, rfl⟩
  go_wp2_with fail
  refine (smul_eq a (b ^^^ c) rfl rfl ha (xlt hb hc) (gm_add a b c) _).mono ?_
  rintro e w' ⟨rfl, rfl⟩
  go_wp2_with fail
  refine (smul_eq a 1 rfl rfl ha (by decide) (gm_one a ha) _).mono ?_
  rintro e w' ⟨rfl, rfl⟩
  by_cases h0 : a = 0
  · have z1 : ((a : Int) == 0) = true := by rw [h0]; rfl
    have H0 : Hid (gi a = 0) := by rw [h0]; exact gi_zero
    clear h0
    go_wp2_with fail
    refine (sinv_eq a rfl ha H0.out _).mono ?_
    rintro e w' ⟨rfl, rfl⟩
    go_wp2_with fail
    refine (smul_eq a 0 rfl rfl ha (by decide) (gm_zero a) _).mono ?_
    rintro e w' ⟨rfl, rfl⟩
    go_wp2_with fail
    refine (smul_eq 2 128 rfl rfl (by decide) (by decide) two_128 _).mono ?_
    rintro e w' ⟨rfl, rfl⟩
    go_wp2
    go_ret
    exact ⟨rfl, by repeat (first | exact Grown.refl _ | apply Grown.drew | apply Grown.alloc)⟩
  · have z1 : ((a : Int) == 0) = false := by rw [beq_eq_false_iff_ne]; omega
    have z2 : ((a : Int) != 0) = true := by rw [bne_iff_ne]; omega
    go_wp2_with fail
    refine (sinv_eq a rfl ha rfl _).mono ?_
    rintro e w' ⟨rfl, rfl⟩
    go_wp2_with fail
    refine (smul_eq a (gi a) rfl rfl ha (gi_lt ha) (gm_gi a ha h0) _).mono ?_
    rintro e w' ⟨rfl, rfl⟩
    go_wp2_with fail
    refine (smul_eq 2 128 rfl rfl (by decide) (by decide) two_128 _).mono ?_
    rintro e w' ⟨rfl, rfl⟩
    clear h0
    go_wp2
    go_ret
    exact ⟨rfl, by repeat (first | exact Grown.refl _ | apply Grown.drew | apply Grown.alloc)⟩

set_option maxRecDepth 100000 in
theorem lifted (os : Os) (started : os.Started) (H : Type) (enc : TypeId × Value → H) :
    ReturnsInHanded {} Try.checked os 4 .any (Rows.fieldsSpec.pre6 enc Try.prog Try.f4 Rows.fieldsRow.domain false) (Rows.fieldsSpec.post enc Try.prog Try.f4 false true false false) := by
  refine returnsInHanded_of_change (C := Try.checked) own started (by kernel_rfl) Try.func4
    (ChangeSpec.witness6 (enc := enc) (C := Try.checked) false ⟨#[], #[.int .u8 0, .int .u8 0, .int .u8 0], []⟩ 8 (by kernel_rfl) (by kernel_rfl) (by kernel_rfl) (by kernel_rfl)) ?_
  intro W base args ds gs before hval0 hW hcnd _
  have hval : ∀ (j : Nat) t v, Try.f4.params[j]? = some t → args[j]? = some v → Value.okWide Try.prog W .any base t v := hval0
  have hW' := hW
  obtain ⟨p, q, hA0, hV, rfl, hfz, hnd⟩ := hW
  have hA : DataW.TrodAll enc Try.prog W 0 (fun _ => true) true Try.f4.params.toList args.toList ds p := hA0
  rw [Try.params4] at hA hval
  obtain ⟨v0, vs0, d0, ds0, p0, q0, hargs, rfl, rfl, h0, r0⟩ := trodAll_cons hA
  obtain ⟨v1, vs1, d1, ds1, p1, q1, rfl, rfl, rfl, h1, r1⟩ := trodAll_cons r0
  obtain ⟨v2, vs2, d2, ds2, p2, q2, rfl, rfl, rfl, h2, r2⟩ := trodAll_cons r1
  obtain ⟨rfl, rfl, rfl⟩ := trodAll_nil r2
  obtain rfl : args = #[v0, v1, v2] := by cases args; simp_all
  obtain ⟨rfl, rfl⟩ := trodVars_none hV
  obtain ⟨a0, rfl, rfl, rfl, w0⟩ := open_int Try.underlying5 (hval 0 5 v0 rfl rfl) h0
  obtain ⟨a1, rfl, rfl, rfl, w1⟩ := open_int Try.underlying5 (hval 1 5 v1 rfl rfl) h1
  obtain ⟨a2, rfl, rfl, rfl, w2⟩ := open_int Try.underlying5 (hval 2 5 v2 rfl rfl) h2
  clear hA0 hval0
  simp only [List.append_nil] at hW'
  refine (walk a0 a1 a2 w0 w1 w2 W).mono fun e W' ⟨he, hg⟩ => ?_
  subst he
  exact ⟨_, rfl, post_of_same (pa := []) (pv := []) hW' (fun _ _ _ => (trodAll_cons_mk (shut_bool Try.underlying4 _) trodAll_mk0)) (fun sp _ => (trodAll_cons_mk (shut_int Try.underlying5 w0) (trodAll_cons_mk (shut_int Try.underlying5 w1) (trodAll_cons_mk (shut_int Try.underlying5 w2) trodAll_mk0)))) (fun _ _ => rfl) rfl
    (hg.frame _) hg.2.1 (ok_one (by kernel_rfl) rfl (okWide_bool_mk Try.underlying4 _))⟩

theorem over : Rows.fieldsRow.holds Try.pinned (OpenSpec.ofChange Rows.fieldsSpec) :=
  OpenClaim.holds_of_wide 4 Try.f4 rfl rfl rfl rfl rfl rfl rfl ⟨rfl, rfl, rfl, rfl, rfl⟩ rfl rfl rfl rfl rfl (by kernel_rfl) Try.func4 (by kernel_rfl)
    (of_decide_eq_true (by kernel_rfl)) (by unfold Func.isWrapper; first | (rw [if_pos (by decide +kernel)]; kernel_rfl) | (rw [if_neg (by decide +kernel)]; exact ⟨rfl, rfl⟩))
    (fun os started H enc _ => lifted os started H enc)

theorem proved : Rows.FieldsSaid :=
  over
#print axioms proved
end Go.Proofs.Ythhommjlomphdaa.fields
