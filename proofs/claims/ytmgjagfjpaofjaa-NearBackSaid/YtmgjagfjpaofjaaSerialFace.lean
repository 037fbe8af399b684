/-
  Contracts of package serial's five functions over this seat's translation.
-/
import Derived.Test.YtmgjagfjpaofjaaSerial
import Derived.WalkKit
import Derived.Handy
import Derived.Lib.Hide
namespace Go.Proofs.Ytmgjagfjpaofjaa
open Go.RowKit
set_option linter.unusedVariables false

theorem add_ok (s n : Int) (w : World) (h0 : 0 ≤ s) (h1 : s < 65536) (h2 : 0 ≤ n) (h3 : n < 32768) :
    Calls Try.prog 13 #[.int .i64 s, .int .i64 n] w fun e w' => e = .returned (.tuple #[.int .i64 ((s + n) % 65536), .int .i64 0]) ∧ Grown w w' := by
  go_enter Try.func13, Try.ntmps13
  go_wp2_with (first | (go_at_call 25; refine (serials1_at _ _ _ (by first | rfl | simp) (by omega) (by omega)).mono ?_; rintro e w' ⟨rfl, rfl⟩) | (go_at_call 26; refine (wrap_any _ _ (by omega) (by omega)).mono ?_; rintro e w' ⟨rfl, rfl⟩))
  go_ret2
  exact ⟨rfl, by go_grown⟩

theorem add_no (s n : Int) (w : World) (h : s < 0 ∨ 65536 ≤ s ∨ n < 0 ∨ 32768 ≤ n) :
    Calls Try.prog 13 #[.int .i64 s, .int .i64 n] w fun e w' => e = .returned (.tuple #[.int .i64 0, .int .i64 2]) ∧ Grown w w' := by
  by_cases g : 0 ≤ s ∧ s < 65536
  · obtain ⟨g0, g1⟩ := g
    have h2 : n < 0 ∨ 32768 ≤ n := by omega
    clear h
    rcases h2 with h2 | h2
    all_goals
      go_enter Try.func13, Try.ntmps13
      go_wp2_with (go_at_call 25; refine (serials1_at _ _ _ (by first | rfl | simp) (by omega) (by omega)).mono ?_; rintro e w' ⟨rfl, rfl⟩)
      go_ret2
      exact ⟨rfl, by go_grown⟩
  · have g2 : s < 0 ∨ 65536 ≤ s := by omega
    clear h
    go_enter Try.func13, Try.ntmps13
    go_wp2_with (go_at_call 25; refine (serials1_at_no _ _ _ (by first | rfl | simp) (by omega)).mono ?_; rintro e w' ⟨rfl, rfl⟩)
    go_ret2
    exact ⟨rfl, by go_grown⟩

theorem far_ok (a b : Int) (w : World) (h0 : 0 ≤ a) (h1 : a < 65536) (h2 : 0 ≤ b) (h3 : b < 65536) :
    Calls Try.prog 15 #[.int .i64 a, .int .i64 b] w fun e w' => e = .returned (.tuple #[.int .i64 ((b - a) % 65536), .int .i64 0]) ∧ Grown w w' := by
  go_enter Try.func15, Try.ntmps15
  go_wp2_with (first | (go_at_call 25; refine (serials2_at _ _ _ _ (by first | rfl | simp) (by omega) (by omega) (by omega) (by omega)).mono ?_; rintro e w' ⟨rfl, rfl⟩) | (go_at_call 26; refine (wrap_any _ _ (by omega) (by omega)).mono ?_; rintro e w' ⟨rfl, rfl⟩))
  go_ret2
  exact ⟨rfl, by go_grown⟩

theorem far_no (a b : Int) (w : World) (h : a < 0 ∨ 65536 ≤ a ∨ b < 0 ∨ 65536 ≤ b) :
    Calls Try.prog 15 #[.int .i64 a, .int .i64 b] w fun e w' => e = .returned (.tuple #[.int .i64 0, .int .i64 2]) ∧ Grown w w' := by
  go_enter Try.func15, Try.ntmps15
  go_wp2_with (go_at_call 25; refine (serials2_at_no _ _ _ _ (by first | rfl | simp) (by omega)).mono ?_; rintro e w' ⟨rfl, rfl⟩)
  go_ret2
  exact ⟨rfl, by go_grown⟩

/-- 0: the same; -1: a is ahead; 1: b is; 2: just half apart. -/
def ord (a b : Int) : Int := if a = b then 0 else if (b - a) % 65536 < 32768 then -1 else if (b - a) % 65536 = 32768 then 2 else 1

theorem order_ok (a b : Int) (w : World) (h0 : 0 ≤ a) (h1 : a < 65536) (h2 : 0 ≤ b) (h3 : b < 65536) :
    Calls Try.prog 17 #[.int .i64 a, .int .i64 b] w fun e w' => e = .returned (.tuple #[.int .i64 (ord a b), .int .i64 0]) ∧ Grown w w' := by
  by_cases g0 : a = b
  · have e : ord a b = 0 := by unfold ord; rw [if_pos g0]
    rw [e]
    have z : ((b - a) % 65536 == 0) = true := by rw [beq_iff_eq]; omega
    clear e
    have G := Lib.hid g0
    clear g0
    go_enter Try.func17, Try.ntmps17
    go_wp2_with (first | (go_at_call 25; refine (serials2_at _ _ _ _ (by first | rfl | simp) (by omega) (by omega) (by omega) (by omega)).mono ?_; rintro e w' ⟨rfl, rfl⟩) | (go_at_call 26; refine (wrap_any _ _ (by omega) (by omega)).mono ?_; rintro e w' ⟨rfl, rfl⟩))
    go_ret2
    exact ⟨rfl, by go_grown⟩
  · have z : ((b - a) % 65536 == 0) = false := by rw [beq_eq_false_iff_ne]; omega
    by_cases g1 : (b - a) % 65536 < 32768
    · have e : ord a b = -1 := by unfold ord; rw [if_neg g0, if_pos g1]
      rw [e]
      clear e g0
      go_enter Try.func17, Try.ntmps17
      go_wp2_with (first | (go_at_call 25; refine (serials2_at _ _ _ _ (by first | rfl | simp) (by omega) (by omega) (by omega) (by omega)).mono ?_; rintro e w' ⟨rfl, rfl⟩) | (go_at_call 26; refine (wrap_any _ _ (by omega) (by omega)).mono ?_; rintro e w' ⟨rfl, rfl⟩))
      go_ret2
      exact ⟨rfl, by go_grown⟩
    · by_cases g2 : (b - a) % 65536 = 32768
      · have e : ord a b = 2 := by unfold ord; rw [if_neg g0, if_neg g1, if_pos g2]
        rw [e]
        have z2 : ((b - a) % 65536 == 32768) = true := by rw [beq_iff_eq]; exact g2
        have g3 : 32768 ≤ (b - a) % 65536 := by omega
        clear e g0 g1 g2
        go_enter Try.func17, Try.ntmps17
        go_wp2_with (first | (go_at_call 25; refine (serials2_at _ _ _ _ (by first | rfl | simp) (by omega) (by omega) (by omega) (by omega)).mono ?_; rintro e w' ⟨rfl, rfl⟩) | (go_at_call 26; refine (wrap_any _ _ (by omega) (by omega)).mono ?_; rintro e w' ⟨rfl, rfl⟩))
        go_ret2
        exact ⟨rfl, by go_grown⟩
      · have e : ord a b = 1 := by unfold ord; rw [if_neg g0, if_neg g1, if_neg g2]
        rw [e]
        have z2 : ((b - a) % 65536 == 32768) = false := by rw [beq_eq_false_iff_ne]; exact g2
        have g3 : 32768 ≤ (b - a) % 65536 := by omega
        clear e g0 g1 g2
        go_enter Try.func17, Try.ntmps17
        go_wp2_with (first | (go_at_call 25; refine (serials2_at _ _ _ _ (by first | rfl | simp) (by omega) (by omega) (by omega) (by omega)).mono ?_; rintro e w' ⟨rfl, rfl⟩) | (go_at_call 26; refine (wrap_any _ _ (by omega) (by omega)).mono ?_; rintro e w' ⟨rfl, rfl⟩))
        go_ret2
        exact ⟨rfl, by go_grown⟩

theorem order_no (a b : Int) (w : World) (h : a < 0 ∨ 65536 ≤ a ∨ b < 0 ∨ 65536 ≤ b) :
    Calls Try.prog 17 #[.int .i64 a, .int .i64 b] w fun e w' => e = .returned (.tuple #[.int .i64 0, .int .i64 2]) ∧ Grown w w' := by
  go_enter Try.func17, Try.ntmps17
  go_wp2_with (go_at_call 25; refine (serials2_at_no _ _ _ _ (by first | rfl | simp) (by omega)).mono ?_; rintro e w' ⟨rfl, rfl⟩)
  go_ret2
  exact ⟨rfl, by go_grown⟩

theorem within_ok (s low n : Int) (w : World) (h0 : 0 ≤ s) (h1 : s < 65536) (h2 : 0 ≤ low) (h3 : low < 65536) (h4 : 0 ≤ n) (h5 : n ≤ 65536) :
    Calls Try.prog 19 #[.int .i64 s, .int .i64 low, .int .i64 n] w fun e w' => e = .returned (.tuple #[.bool (decide ((s - low) % 65536 < n)), .int .i64 0]) ∧ Grown w w' := by
  go_enter Try.func19, Try.ntmps19
  go_wp2_with (first | (go_at_call 25; refine (serials2_at _ _ _ _ (by first | rfl | simp) (by omega) (by omega) (by omega) (by omega)).mono ?_; rintro e w' ⟨rfl, rfl⟩) | (go_at_call 26; refine (wrap_any _ _ (by omega) (by omega)).mono ?_; rintro e w' ⟨rfl, rfl⟩))
  go_ret2
  exact ⟨rfl, by go_grown⟩

theorem within_no (s low n : Int) (w : World) (h : s < 0 ∨ 65536 ≤ s ∨ low < 0 ∨ 65536 ≤ low ∨ n < 0 ∨ 65536 < n) :
    Calls Try.prog 19 #[.int .i64 s, .int .i64 low, .int .i64 n] w fun e w' => e = .returned (.tuple #[.bool false, .int .i64 2]) ∧ Grown w w' := by
  by_cases g : 0 ≤ s ∧ s < 65536 ∧ 0 ≤ low ∧ low < 65536
  · obtain ⟨g0, g1, g2, g3⟩ := g
    have h2 : n < 0 ∨ 65536 < n := by omega
    clear h
    rcases h2 with h2 | h2
    all_goals
      go_enter Try.func19, Try.ntmps19
      go_wp2_with (go_at_call 25; refine (serials2_at _ _ _ _ (by first | rfl | simp) (by omega) (by omega) (by omega) (by omega)).mono ?_; rintro e w' ⟨rfl, rfl⟩)
      go_ret2
      exact ⟨rfl, by go_grown⟩
  · have g2 : s < 0 ∨ 65536 ≤ s ∨ low < 0 ∨ 65536 ≤ low := by omega
    clear h g
    go_enter Try.func19, Try.ntmps19
    go_wp2_with (go_at_call 25; refine (serials2_at_no _ _ _ _ (by first | rfl | simp) (by omega)).mono ?_; rintro e w' ⟨rfl, rfl⟩)
    go_ret2
    exact ⟨rfl, by go_grown⟩

def near (s p : Int) : Int := if (s - p) % 65536 < 32768 then p + (s - p) % 65536 else p + ((s - p) % 65536 - 65536)

theorem near_ok (s p : Int) (w : World) (h0 : 0 ≤ s) (h1 : s < 65536) (h2 : 0 ≤ p) (h3 : p ≤ 1048576) :
    Calls Try.prog 21 #[.int .i64 s, .int .i64 p] w fun e w' => e = .returned (.tuple #[.int .i64 (near s p), .int .i64 0]) ∧ Grown w w' := by
  by_cases g : (s - p) % 65536 < 32768
  · have e : near s p = p + (s - p) % 65536 := by unfold near; rw [if_pos g]
    rw [e]
    clear e
    go_enter Try.func21, Try.ntmps21
    go_wp2_with (first | (go_at_call 25; refine (serials1_at _ _ _ (by first | rfl | simp) (by omega) (by omega)).mono ?_; rintro e w' ⟨rfl, rfl⟩) | (go_at_call 26; refine (wrap_any _ _ (by omega) (by omega)).mono ?_; rintro e w' ⟨rfl, rfl⟩))
    go_ret2
    exact ⟨rfl, by go_grown⟩
  · have e : near s p = p + ((s - p) % 65536 - 65536) := by unfold near; rw [if_neg g]
    rw [e]
    clear e
    go_enter Try.func21, Try.ntmps21
    go_wp2_with (first | (go_at_call 25; refine (serials1_at _ _ _ (by first | rfl | simp) (by omega) (by omega)).mono ?_; rintro e w' ⟨rfl, rfl⟩) | (go_at_call 26; refine (wrap_any _ _ (by omega) (by omega)).mono ?_; rintro e w' ⟨rfl, rfl⟩))
    go_ret2
    exact ⟨rfl, by go_grown⟩

theorem near_no (s p : Int) (w : World) (h : s < 0 ∨ 65536 ≤ s ∨ p < 0 ∨ 1048576 < p) :
    Calls Try.prog 21 #[.int .i64 s, .int .i64 p] w fun e w' => e = .returned (.tuple #[.int .i64 0, .int .i64 2]) ∧ Grown w w' := by
  by_cases g : 0 ≤ s ∧ s < 65536
  · obtain ⟨g0, g1⟩ := g
    have h2 : p < 0 ∨ 1048576 < p := by omega
    clear h
    rcases h2 with h2 | h2
    all_goals
      go_enter Try.func21, Try.ntmps21
      go_wp2_with (go_at_call 25; refine (serials1_at _ _ _ (by first | rfl | simp) (by omega) (by omega)).mono ?_; rintro e w' ⟨rfl, rfl⟩)
      go_ret2
      exact ⟨rfl, by go_grown⟩
  · have g2 : s < 0 ∨ 65536 ≤ s := by omega
    clear h
    go_enter Try.func21, Try.ntmps21
    go_wp2_with (go_at_call 25; refine (serials1_at_no _ _ _ (by first | rfl | simp) (by omega)).mono ?_; rintro e w' ⟨rfl, rfl⟩)
    go_ret2
    exact ⟨rfl, by go_grown⟩

end Go.Proofs.Ytmgjagfjpaofjaa
