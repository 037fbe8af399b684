/-
  The walks of packthreadlaw's four statements of layer 2 over this seat's translation: each answers true.
-/
import Derived.Test.YtkipjdohobklhaaInetRef
import Derived.WalkKit
import Derived.Handy
import Derived.Lib.Hide
namespace Go.Proofs.Ytkipjdohobklhaa
open Go.RowKit
set_option linter.unusedVariables false

theorem walkInetFolds (A : Option Addr) (n c : Nat) (zs : List Int) (w : World) (hb : Bs w A zs) (hn : zs.length = n) (h47 : n ≤ 140737488351232) :
    Calls Try.prog 3 #[.slice A n c] w fun e w' => e = .returned (.bool true) ∧ Below w.heap.size w w' := by
  have HB := Lib.hid hb
  have HN := Lib.hid hn
  clear hb hn
  go_enter Try.func3, Try.ntmps3
  go_wp2_with (first | (go_at_call 12; refine (fold_any _ _ _ _ _ HB.out HN.out (by omega)).mono ?_; rintro e w' ⟨rfl, rfl⟩) | (go_at_call 13; refine (reffold_any _ _ _ _ _ HB.out HN.out (by omega)).mono ?_; rintro e w' ⟨rfl, rfl⟩))
  go_ret
  exact ⟨by simp, Below.refl _ _⟩

theorem walkInetSums (A : Option Addr) (n c : Nat) (zs : List Int) (w : World) (hb : Bs w A zs) (hn : zs.length = n) (h47 : n ≤ 140737488351232) :
    Calls Try.prog 4 #[.slice A n c] w fun e w' => e = .returned (.bool true) ∧ Below w.heap.size w w' := by
  have hf := fo_bd (tot 0 zs) (tot_bd0 zs hb.1).1
  have HB := Lib.hid hb
  have HN := Lib.hid hn
  clear hb hn
  go_enter Try.func4, Try.ntmps4
  go_wp2_with (first | (go_at_call 14; refine (sum_any _ _ _ _ _ HB.out HN.out (by omega)).mono ?_; rintro e w' ⟨rfl, rfl⟩) | (go_at_call 13; refine (reffold_any _ _ _ _ _ HB.out HN.out (by omega)).mono ?_; rintro e w' ⟨rfl, rfl⟩))
  go_ret
  exact ⟨by simp, Below.refl _ _⟩

theorem walkInetJoins (a b : Int) (odd : Bool) (w : World) :
    Calls Try.prog 5 #[.int .i64 a, .int .i64 b, .bool odd] w fun e w' => e = .returned (.bool true) ∧ Below w.heap.size w w' := by
  by_cases h : 0 ≤ a ∧ a ≤ 65535 ∧ 0 ≤ b ∧ b ≤ 65535
  · obtain ⟨h0, h1, h2, h3⟩ := h
    go_enter Try.func5, Try.ntmps5
    go_wp2_with (first | (go_at_call 15; refine (join_ok _ _ _ _ (by omega) (by omega) (by omega) (by omega)).mono ?_; rintro e w1 ⟨rfl, hg1⟩) | (go_at_call 16; refine (refjoin_ok _ _ _ _ (by omega) (by omega) (by omega) (by omega)).mono ?_; rintro e w2 ⟨rfl, hg2⟩))
    go_ret
    exact ⟨by simp, hg1.trans (hg2.mono hg1.size)⟩
  · have h' : a < 0 ∨ 65535 < a ∨ b < 0 ∨ 65535 < b := by omega
    clear h
    go_enter Try.func5, Try.ntmps5
    go_wp2_with (first | (go_at_call 15; refine (join_no _ _ _ _ h').mono ?_; rintro e w1 ⟨rfl, hg1⟩) | (go_at_call 16; refine (refjoin_no _ _ _ _ h').mono ?_; rintro e w' ⟨rfl, rfl⟩))
    go_ret
    exact ⟨by simp, hg1⟩

theorem walkInetUpdates (a b d : Int) (w : World) :
    Calls Try.prog 6 #[.int .i64 a, .int .i64 b, .int .i64 d] w fun e w' => e = .returned (.bool true) ∧ Below w.heap.size w w' := by
  by_cases h : 0 ≤ a ∧ a ≤ 65535 ∧ 0 ≤ b ∧ b ≤ 65535 ∧ 0 ≤ d ∧ d ≤ 65535
  · obtain ⟨h0, h1, h2, h3, h4, h5⟩ := h
    go_enter Try.func6, Try.ntmps6
    go_wp2_with (first | (go_at_call 17; refine (update_ok _ _ _ _ (by omega) (by omega) (by omega) (by omega) (by omega) (by omega)).mono ?_; rintro e w1 ⟨rfl, hg1⟩) | (go_at_call 18; refine (refupdate_ok _ _ _ _ (by omega) (by omega) (by omega) (by omega) (by omega) (by omega)).mono ?_; rintro e w2 ⟨rfl, hg2⟩))
    go_ret
    exact ⟨by simp, hg1.trans (hg2.mono hg1.size)⟩
  · have h' : a < 0 ∨ 65535 < a ∨ b < 0 ∨ 65535 < b ∨ d < 0 ∨ 65535 < d := by omega
    clear h
    go_enter Try.func6, Try.ntmps6
    go_wp2_with (first | (go_at_call 17; refine (update_no _ _ _ _ h').mono ?_; rintro e w1 ⟨rfl, hg1⟩) | (go_at_call 18; refine (refupdate_no _ _ _ _ h').mono ?_; rintro e w' ⟨rfl, rfl⟩))
    go_ret
    exact ⟨by simp, hg1⟩

end Go.Proofs.Ytkipjdohobklhaa
