/-
  The walks of the program's own Mul and Inv.
-/
import Derived.Test.YthhommjlomphdaaFieldWalks
namespace Go.Proofs.Ythhommjlomphdaa
open Go.RowKit Gf

set_option maxRecDepth 100000 in
theorem smul_any (a b : Nat) (ha : a < 256) (hb : b < 256) (w : World) :
    Calls Try.prog 10 #[.int .u8 a, .int .u8 b] w fun e w' => e = .returned (.int .u8 (gm a b)) ∧ w' = w := by
  go_enter Try.func10, Try.ntmps10
  go_wp2_with (go_at_call 22; refine (mul_any a b ha hb _).mono ?_; rintro e w' ⟨rfl, rfl⟩)
  go_ret
  exact ⟨rfl, rfl⟩
set_option maxRecDepth 100000 in
theorem sinv_any (a : Nat) (ha : a < 256) (w : World) :
    Calls Try.prog 11 #[.int .u8 a] w fun e w' => e = .returned (.int .u8 (gi a)) ∧ w' = w := by
  go_enter Try.func11, Try.ntmps11
  go_wp2_with (go_at_call 23; refine (inv_any a ha _).mono ?_; rintro e w' ⟨rfl, rfl⟩)
  go_ret
  exact ⟨rfl, rfl⟩
end Go.Proofs.Ythhommjlomphdaa
