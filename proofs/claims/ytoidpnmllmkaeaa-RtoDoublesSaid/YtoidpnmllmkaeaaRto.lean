/-
  Contracts of package rto.
-/
import Derived.Test.YtoidpnmllmkaeaaBox4
import Derived.Test.YtoidpnmllmkaeaaRtoMath
namespace Go.Proofs.Ytoidpnmllmkaeaa
open Go.RowKit
set_option linter.unusedVariables false
set_option linter.unusedSimpArgs false

theorem within_ok (n lo hi : Int) (w : World) (h : lo ≤ n ∧ n ≤ hi) :
    Calls Try.prog 21 #[.int .i64 n, .int .i64 lo, .int .i64 hi] w fun e w' => e = .returned (.bool true) ∧ w = w' := by
  obtain ⟨h0, h1⟩ := h
  go_enter Try.func21, Try.ntmps21
  go_wp2
  go_ret
  exact ⟨rfl, rfl⟩
theorem within_no (n lo hi : Int) (w : World) (h : ¬ (lo ≤ n ∧ n ≤ hi)) :
    Calls Try.prog 21 #[.int .i64 n, .int .i64 lo, .int .i64 hi] w fun e w' => e = .returned (.bool false) ∧ w = w' := by
  by_cases h0 : lo ≤ n
  · have h1 : ¬ n ≤ hi := fun k => h ⟨h0, k⟩
    clear h
    go_enter Try.func21, Try.ntmps21
    go_wp2
    go_ret
    exact ⟨rfl, rfl⟩
  · clear h
    go_enter Try.func21, Try.ntmps21
    go_wp2
    go_ret
    exact ⟨rfl, rfl⟩
theorem isTime_ok (n : Int) (w : World) (h : 0 ≤ n ∧ n ≤ 1048576) :
    Calls Try.prog 22 #[.int .i64 n] w fun e w' => e = .returned (.bool true) ∧ w = w' := by
  have H := Lib.hid h
  clear h
  go_enter Try.func22, Try.ntmps22
  go_wp2_with (go_at_call 21; refine (within_ok _ _ _ _ H.out).mono ?_; rintro e w' ⟨rfl, rfl⟩)
  go_ret
  exact ⟨rfl, rfl⟩
theorem isTime_no (n : Int) (w : World) (h : ¬ (0 ≤ n ∧ n ≤ 1048576)) :
    Calls Try.prog 22 #[.int .i64 n] w fun e w' => e = .returned (.bool false) ∧ w = w' := by
  have H := Lib.hid h
  clear h
  go_enter Try.func22, Try.ntmps22
  go_wp2_with (go_at_call 21; refine (within_no _ _ _ _ H.out).mono ?_; rintro e w' ⟨rfl, rfl⟩)
  go_ret
  exact ⟨rfl, rfl⟩

theorem may_ok (s v t b : Int) (w : World) (h : Tm s v t b) :
    Calls Try.prog 11 #[.agg #[.int .i64 s, .int .i64 v, .int .i64 t, .int .i64 b]] w fun e w' => e = .returned (.bool true) ∧ Below w.heap.size w w' := by
  have H := Lib.hid h
  clear h
  go_enter Try.func11, Try.ntmps11
  go_wp2_with (go_at_call 21; refine (within_ok _ _ _ _ (by obtain ⟨a0, a1, a2, a3, a4, a5, a6, a7⟩ := H.out; omega)).mono ?_; rintro e w' ⟨rfl, rfl⟩)
  go_ret
  exact ⟨rfl, ba1 _ _⟩
theorem may_no (s v t b : Int) (w : World) (h : ¬ Tm s v t b) :
    Calls Try.prog 11 #[.agg #[.int .i64 s, .int .i64 v, .int .i64 t, .int .i64 b]] w fun e w' => e = .returned (.bool false) ∧ Below w.heap.size w w' := by
  have H0 : ¬ (0 ≤ s ∧ s ≤ 8388608) ∨ (0 ≤ s ∧ s ≤ 8388608) ∧ (¬ (0 ≤ v ∧ v ≤ 4194304) ∨ (0 ≤ v ∧ v ≤ 4194304) ∧ (¬ (200 ≤ t ∧ t ≤ 60000) ∨ (200 ≤ t ∧ t ≤ 60000) ∧ ¬ (0 ≤ b ∧ b ≤ 12))) := by
    have : ¬ ((0 ≤ s ∧ s ≤ 8388608) ∧ (0 ≤ v ∧ v ≤ 4194304) ∧ (200 ≤ t ∧ t ≤ 60000) ∧ (0 ≤ b ∧ b ≤ 12)) := fun ⟨a, c, d, e⟩ => h ⟨a.1, a.2, c.1, c.2, d.1, d.2, e.1, e.2⟩
    by_cases g0 : 0 ≤ s ∧ s ≤ 8388608
    · by_cases g1 : 0 ≤ v ∧ v ≤ 4194304
      · by_cases g2 : 200 ≤ t ∧ t ≤ 60000
        · exact .inr ⟨g0, .inr ⟨g1, .inr ⟨g2, fun g3 => this ⟨g0, g1, g2, g3⟩⟩⟩⟩
        · exact .inr ⟨g0, .inr ⟨g1, .inl g2⟩⟩
      · exact .inr ⟨g0, .inl g1⟩
    · exact .inl g0
  clear h
  rcases H0 with H0 | ⟨H0, H1 | ⟨H1, H2 | ⟨H2, H3⟩⟩⟩
  · have K0 := Lib.hid H0
    clear H0
    go_enter Try.func11, Try.ntmps11
    go_wp2_with (go_at_call 21; refine (within_no _ _ _ _ K0.out).mono ?_; rintro e w' ⟨rfl, rfl⟩)
    go_ret
    exact ⟨rfl, ba1 _ _⟩
  · have K0 := Lib.hid H0; have K1 := Lib.hid H1
    clear H0 H1
    go_enter Try.func11, Try.ntmps11
    go_wp2_with (go_at_call 21; (first | (with_reducible refine (within_ok _ _ _ _ K0.out).mono ?_) | (with_reducible refine (within_no _ _ _ _ K1.out).mono ?_)); rintro e w' ⟨rfl, rfl⟩)
    go_ret
    exact ⟨rfl, ba1 _ _⟩
  · have K0 := Lib.hid H0; have K1 := Lib.hid H1; have K2 := Lib.hid H2
    clear H0 H1 H2
    go_enter Try.func11, Try.ntmps11
    go_wp2_with (go_at_call 21; (first | (with_reducible refine (within_ok _ _ _ _ K0.out).mono ?_) | (with_reducible refine (within_ok _ _ _ _ K1.out).mono ?_) | (with_reducible refine (within_no _ _ _ _ K2.out).mono ?_)); rintro e w' ⟨rfl, rfl⟩)
    go_ret
    exact ⟨rfl, ba1 _ _⟩
  · have K0 := Lib.hid H0; have K1 := Lib.hid H1; have K2 := Lib.hid H2; have K3 := Lib.hid H3
    clear H0 H1 H2 H3
    go_enter Try.func11, Try.ntmps11
    go_wp2_with (go_at_call 21; (first | (with_reducible refine (within_ok _ _ _ _ K0.out).mono ?_) | (with_reducible refine (within_ok _ _ _ _ K1.out).mono ?_) | (with_reducible refine (within_ok _ _ _ _ K2.out).mono ?_) | (with_reducible refine (within_no _ _ _ _ K3.out).mono ?_)); rintro e w' ⟨rfl, rfl⟩)
    go_ret
    exact ⟨rfl, ba1 _ _⟩

end Go.Proofs.Ytoidpnmllmkaeaa
