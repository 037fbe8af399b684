/-
  Contract of inet.Update where its arguments may be.
-/
import Derived.Test.YtgmpablmkpamaaaFold
namespace Go.Proofs.Ytgmpablmkpamaaa
open Go.RowKit
set_option linter.unusedVariables false

theorem pairs3_ok (a c d : Int) (b : Nat) (w : World) (hb : b = w.heap.size) (h0 : 0 ≤ a) (h1 : a ≤ 65535) (h2 : 0 ≤ c) (h3 : c ≤ 65535) (h4 : 0 ≤ d) (h5 : d ≤ 65535) :
    Calls Try.prog 37 #[.slice (some ⟨b, 0, none⟩) 3 3] (w.alloc (.cells #[.int .i64 a, .int .i64 c, .int .i64 d] 3)) fun e w' => e = .returned (.bool true) ∧ w.alloc (.cells #[.int .i64 a, .int .i64 c, .int .i64 d] 3) = w' := by
  subst hb
  go_enter Try.func37, Try.ntmps37
  go_wp2
  go_rounds 4
  all_goals go_ret
  all_goals exact ⟨rfl, rfl⟩

/-- what Update answers -/
def mended (sum was is : Int) : Int := 65535 - fo (65535 - sum + 65535 - was + is)

theorem update_ok (sum was is : Int) (w : World) (h0 : 0 ≤ sum) (h1 : sum ≤ 65535) (h2 : 0 ≤ was) (h3 : was ≤ 65535) (h4 : 0 ≤ is) (h5 : is ≤ 65535) :
    Calls Try.prog 20 #[.int .i64 sum, .int .i64 was, .int .i64 is] w fun e w' => e = .returned (.tuple #[.int .i64 (mended sum was is), .int .i64 0]) ∧ Below w.heap.size w w' := by
  have e : Hid (mended sum was is = 65535 - fo (65535 - sum + 65535 - was + is)) := Lib.hid rfl
  have hf := fo_bd (65535 - sum + 65535 - was + is) (by omega)
  go_enter Try.func20, Try.ntmps20
  go_wp2_with (first | (go_at_call 37; refine (pairs3_ok _ _ _ _ _ (by first | rfl | simp) (by omega) (by omega) (by omega) (by omega) (by omega) (by omega)).mono ?_; rintro e w' ⟨rfl, rfl⟩) | (go_at_call 36; refine (narrow_any _ _ (by omega) (by omega)).mono ?_; rintro e w' ⟨rfl, rfl⟩))
  go_ret2
  exact ⟨by rw [e.out]; rfl, (Below.refl _ _).alloc (Nat.le_refl _) _⟩

end Go.Proofs.Ytgmpablmkpamaaa
