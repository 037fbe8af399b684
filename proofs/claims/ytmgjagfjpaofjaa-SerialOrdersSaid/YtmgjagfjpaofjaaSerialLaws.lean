/-
  The walks of packthreadlaw's five statements of layer 1 over this seat's translation: each answers true.
-/
import Derived.Test.YtmgjagfjpaofjaaSerialRef
import Derived.WalkKit
import Derived.Handy
import Derived.Lib.Hide
namespace Go.Proofs.Ytmgjagfjpaofjaa
open Go.RowKit
set_option linter.unusedVariables false

theorem walkSerialAdds (s n : Int) (w : World) :
    Calls Try.prog 3 #[.int .i64 s, .int .i64 n] w fun e w' => e = .returned (.bool true) ∧ Grown w w' := by
  by_cases h : 0 ≤ s ∧ s < 65536 ∧ 0 ≤ n ∧ n < 32768
  · obtain ⟨h0, h1, h2, h3⟩ := h
    go_enter Try.func3, Try.ntmps3
    go_wp2_with (first | (go_at_call 13; refine (add_ok _ _ _ (by omega) (by omega) (by omega) (by omega)).mono ?_; rintro e w1 ⟨rfl, hg1⟩) | (go_at_call 14; refine (refadd_ok _ _ _ (by omega) (by omega) (by omega) (by omega)).mono ?_; rintro e w' ⟨rfl, rfl⟩))
    go_ret
    exact ⟨by simp, hg1⟩
  · have h' : s < 0 ∨ 65536 ≤ s ∨ n < 0 ∨ 32768 ≤ n := by omega
    clear h
    go_enter Try.func3, Try.ntmps3
    go_wp2_with (first | (go_at_call 13; refine (add_no _ _ _ (by omega)).mono ?_; rintro e w1 ⟨rfl, hg1⟩) | (go_at_call 14; refine (refadd_no _ _ _ (by omega)).mono ?_; rintro e w' ⟨rfl, rfl⟩))
    go_ret
    exact ⟨by simp, hg1⟩

theorem walkSerialFars (a b : Int) (w : World) :
    Calls Try.prog 4 #[.int .i64 a, .int .i64 b] w fun e w' => e = .returned (.bool true) ∧ Grown w w' := by
  by_cases h : 0 ≤ a ∧ a < 65536 ∧ 0 ≤ b ∧ b < 65536
  · obtain ⟨h0, h1, h2, h3⟩ := h
    go_enter Try.func4, Try.ntmps4
    go_wp2_with (first | (go_at_call 15; refine (far_ok _ _ _ (by omega) (by omega) (by omega) (by omega)).mono ?_; rintro e w1 ⟨rfl, hg1⟩) | (go_at_call 16; refine (reffar_ok _ _ _ (by omega) (by omega) (by omega) (by omega)).mono ?_; rintro e w' ⟨rfl, rfl⟩))
    go_ret
    exact ⟨by simp, hg1⟩
  · have h' : a < 0 ∨ 65536 ≤ a ∨ b < 0 ∨ 65536 ≤ b := by omega
    clear h
    go_enter Try.func4, Try.ntmps4
    go_wp2_with (first | (go_at_call 15; refine (far_no _ _ _ (by omega)).mono ?_; rintro e w1 ⟨rfl, hg1⟩) | (go_at_call 16; refine (reffar_no _ _ _ (by omega)).mono ?_; rintro e w' ⟨rfl, rfl⟩))
    go_ret
    exact ⟨by simp, hg1⟩

theorem walkSerialOrders (a b : Int) (w : World) :
    Calls Try.prog 5 #[.int .i64 a, .int .i64 b] w fun e w' => e = .returned (.bool true) ∧ Grown w w' := by
  by_cases h : 0 ≤ a ∧ a < 65536 ∧ 0 ≤ b ∧ b < 65536
  · obtain ⟨h0, h1, h2, h3⟩ := h
    go_enter Try.func5, Try.ntmps5
    go_wp2_with (first | (go_at_call 17; refine (order_ok _ _ _ (by omega) (by omega) (by omega) (by omega)).mono ?_; rintro e w1 ⟨rfl, hg1⟩) | (go_at_call 18; refine (reforder_ok _ _ _ (by omega) (by omega) (by omega) (by omega)).mono ?_; rintro e w' ⟨rfl, rfl⟩))
    go_ret
    exact ⟨by simp, hg1⟩
  · have h' : a < 0 ∨ 65536 ≤ a ∨ b < 0 ∨ 65536 ≤ b := by omega
    clear h
    go_enter Try.func5, Try.ntmps5
    go_wp2_with (first | (go_at_call 17; refine (order_no _ _ _ (by omega)).mono ?_; rintro e w1 ⟨rfl, hg1⟩) | (go_at_call 18; refine (reforder_no _ _ _ (by omega)).mono ?_; rintro e w' ⟨rfl, rfl⟩))
    go_ret
    exact ⟨by simp, hg1⟩

theorem walkSerialWithins (s low n : Int) (w : World) :
    Calls Try.prog 6 #[.int .i64 s, .int .i64 low, .int .i64 n] w fun e w' => e = .returned (.bool true) ∧ Grown w w' := by
  by_cases h : 0 ≤ s ∧ s < 65536 ∧ 0 ≤ low ∧ low < 65536 ∧ 0 ≤ n ∧ n ≤ 65536
  · obtain ⟨h0, h1, h2, h3, h4, h5⟩ := h
    go_enter Try.func6, Try.ntmps6
    go_wp2_with (first | (go_at_call 19; refine (within_ok _ _ _ _ (by omega) (by omega) (by omega) (by omega) (by omega) (by omega)).mono ?_; rintro e w1 ⟨rfl, hg1⟩) | (go_at_call 20; refine (refwithin_ok _ _ _ _ (by omega) (by omega) (by omega) (by omega) (by omega) (by omega)).mono ?_; rintro e w' ⟨rfl, rfl⟩))
    go_ret
    exact ⟨by simp, hg1⟩
  · have h' : s < 0 ∨ 65536 ≤ s ∨ low < 0 ∨ 65536 ≤ low ∨ n < 0 ∨ 65536 < n := by omega
    clear h
    go_enter Try.func6, Try.ntmps6
    go_wp2_with (first | (go_at_call 19; refine (within_no _ _ _ _ (by omega)).mono ?_; rintro e w1 ⟨rfl, hg1⟩) | (go_at_call 20; refine (refwithin_no _ _ _ _ (by omega)).mono ?_; rintro e w' ⟨rfl, rfl⟩))
    go_ret
    exact ⟨by simp, hg1⟩

theorem walkSerialNears (s place : Int) (w : World) :
    Calls Try.prog 7 #[.int .i64 s, .int .i64 place] w fun e w' => e = .returned (.bool true) ∧ Grown w w' := by
  by_cases h : 0 ≤ s ∧ s < 65536 ∧ 0 ≤ place ∧ place ≤ 1048576
  · obtain ⟨h0, h1, h2, h3⟩ := h
    go_enter Try.func7, Try.ntmps7
    go_wp2_with (first | (go_at_call 21; refine (near_ok _ _ _ (by omega) (by omega) (by omega) (by omega)).mono ?_; rintro e w1 ⟨rfl, hg1⟩) | (go_at_call 22; refine (refnear_ok _ _ _ (by omega) (by omega) (by omega) (by omega)).mono ?_; rintro e w' ⟨rfl, rfl⟩))
    go_ret
    exact ⟨by simp, hg1⟩
  · have h' : s < 0 ∨ 65536 ≤ s ∨ place < 0 ∨ 1048576 < place := by omega
    clear h
    go_enter Try.func7, Try.ntmps7
    go_wp2_with (first | (go_at_call 21; refine (near_no _ _ _ (by omega)).mono ?_; rintro e w1 ⟨rfl, hg1⟩) | (go_at_call 22; refine (refnear_no _ _ _ (by omega)).mono ?_; rintro e w' ⟨rfl, rfl⟩))
    go_ret
    exact ⟨by simp, hg1⟩

end Go.Proofs.Ytmgjagfjpaofjaa
