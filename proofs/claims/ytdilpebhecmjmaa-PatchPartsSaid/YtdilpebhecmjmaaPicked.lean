/-
  The contract of packthreadkeep.Picked over this seat's translation: a remainder that is not below 0.
-/
import Derived.Test.YtdilpebhecmjmaaChecked
import Derived.WalkKit
import Derived.Handy
import Derived.Lib.Hide
namespace Go.Proofs.Ytdilpebhecmjmaa
open Go.RowKit
set_option linter.unusedVariables false

theorem picked_any (a n : Int) (w : World) (h1 : -9223372036854775808 ≤ a) (h2 : a ≤ 9223372036854775807) (h3 : 0 < n) (h4 : n ≤ 4294967296) :
    Calls Try.prog 18 #[.int .i64 a, .int .i64 n] w fun e w' => e = .returned (.int .i64 (a % n)) ∧ w = w' := by
  have hm0 : 0 ≤ a % n := Int.emod_nonneg _ (by omega)
  have hm1 : a % n < n := Int.emod_lt_of_pos _ h3
  by_cases h : 0 ≤ a
  · go_enter Try.func18, Try.ntmps18
    go_wp2
    go_ret
    exact ⟨rfl, rfl⟩
  · have e1 : a.tmod n = -((-a).tmod n) := by rw [← Int.neg_tmod, Int.neg_neg]
    rw [Int.tmod_eq_emod_of_nonneg (a := -a) (b := n) (by omega)] at e1
    have k0 : 0 ≤ (-a) % n := Int.emod_nonneg _ (by omega)
    have k1 : (-a) % n < n := Int.emod_lt_of_pos _ h3
    have k2 : (-a) % n = 0 → a % n = 0 := by
      intro k; exact Int.emod_eq_zero_of_dvd (Int.dvd_neg.mp (Int.dvd_of_emod_eq_zero k))
    have k3 : 0 < (-a) % n → a % n = n - (-a) % n := by
      intro k
      have e2 : a = -((-a) % n) + n * (-((-a) / n)) := by
        have := Int.emod_add_mul_ediv (-a) n
        rw [Int.mul_neg]; omega
      have e3 : a % n = (n - (-a) % n) % n := by
        rw [e2, Int.add_mul_emod_self_left, ← e2, Int.sub_eq_add_neg, Int.add_comm n, Int.add_emod_right]
      rw [e3, Int.emod_eq_of_lt (by omega) (by omega)]
    have g1 : -n < a.tmod n := by omega
    have g2 : a.tmod n ≤ 0 := by omega
    by_cases g : a.tmod n < 0
    · have g5 : Hid (a.tmod n + n = a % n) := Lib.hid (by omega)
      clear k0 k1 k2 k3 e1
      go_enter Try.func18, Try.ntmps18
      go_wp2
      go_ret
      exact ⟨by rw [g5.out]; rfl, rfl⟩
    · have g5 : Hid (a.tmod n = a % n) := Lib.hid (by omega)
      clear k0 k1 k2 k3 e1
      go_enter Try.func18, Try.ntmps18
      go_wp2
      go_ret
      exact ⟨by rw [← g5.out]; rfl, rfl⟩

theorem picked_v (a n r : Int) (w : World) (hr : Hid (r = a % n)) (h1 : -9223372036854775808 ≤ a) (h2 : a ≤ 9223372036854775807) (h3 : 0 < n) (h4 : n ≤ 4294967296) :
    Calls Try.prog 18 #[.int .i64 a, .int .i64 n] w fun e w' => e = .returned (.int .i64 r) ∧ w = w' := by
  rw [hr.out]; exact picked_any a n w h1 h2 h3 h4
/-- the same, as a natural number -/
theorem picked_n (a n : Int) (k : Nat) (w : World) (hr : Hid ((k : Int) = a % n)) (h1 : -9223372036854775808 ≤ a) (h2 : a ≤ 9223372036854775807) (h3 : 0 < n) (h4 : n ≤ 4294967296) :
    Calls Try.prog 18 #[.int .i64 a, .int .i64 n] w fun e w' => e = .returned (.int .i64 (k : Int)) ∧ w = w' := by
  rw [hr.out]; exact picked_any a n w h1 h2 h3 h4
theorem pick_nat (a n : Int) (h : 0 < n) : ∃ k : Nat, Hid ((k : Int) = a % n) ∧ (k : Int) < n := by
  have h0 := Int.emod_nonneg a (show n ≠ 0 by omega)
  have h1 := Int.emod_lt_of_pos a h
  exact ⟨(a % n).toNat, Lib.hid (by omega), by omega⟩

end Go.Proofs.Ytdilpebhecmjmaa
