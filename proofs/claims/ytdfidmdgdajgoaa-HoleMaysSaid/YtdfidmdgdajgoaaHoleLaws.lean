/-
  The walks of HoleMays and HoleGaps.
-/
import Derived.Test.YtdfidmdgdajgoaaHoleGaps
import Derived.Test.YtdfidmdgdajgoaaHoleSame
namespace Go.Proofs.Ytdfidmdgdajgoaa
open Go.RowKit
set_option linter.unusedVariables false

theorem mayB_len {d : Int} {l : List Rg} (h : mayB d l = true) : 0 ≤ d ∧ d ≤ 1048576 ∧ l.length ≤ 16 ∧ okB d l = true := by
  simpa [mayB, Bool.and_eq_true, decide_eq_true_eq] using h

theorem walkHoleMays (d : Int) (A : Option Addr) (n c : Nat) (l : List Rg) (w : World) (hb : Rs w A l) (hn : l.length = n) (hc : n ≤ c) (hr : c ≤ 8796093021952) :
    Calls Try.prog 3 #[.int .i64 d, .slice A n c] w fun e w' => e = .returned (.bool true) ∧ Below w.heap.size w w' := by
  have HB := Lib.hid hb
  have HN := Lib.hid hn
  clear hb hn
  rcases hm : mayB d l with _ | _ <;> (
    have HM := Lib.hid hm
    clear hm
    go_enter Try.func3, Try.ntmps3
    go_wp2_with (first
      | (go_at_call 11; refine (may_any d A n c l _ HB.out HN.out (by omega)).mono ?_; rw [HM.out]; rintro e w1 ⟨rfl, hb1⟩)
      | (go_at_call 12; refine (refMay_any d A n c l _ (HB.out.below hb1) HN.out (by omega)).mono ?_; rw [HM.out]; rintro e w2 ⟨rfl, hb2⟩))
    go_ret
    exact ⟨rfl, bthen hb1 hb2⟩)

theorem walkHoleGaps (d : Int) (A : Option Addr) (n c : Nat) (l : List Rg) (w : World) (hb : Rs w A l) (hn : l.length = n) (hc : n ≤ c) (hr : c ≤ 8796093021952) :
    Calls Try.prog 6 #[.int .i64 d, .slice A n c] w fun e w' => e = .returned (.bool true) ∧ Below w.heap.size w w' := by
  rcases hm : mayB d l with _ | _
  · have HB := Lib.hid hb
    have HN := Lib.hid hn
    have HM := Lib.hid hm
    clear hb hn hm
    go_enter Try.func6, Try.ntmps6
    go_wp2_with (first
      | (go_at_call 18; refine (gaps_no d A n c l _ HB.out HN.out (by omega) HM.out).mono ?_; rintro e w1 ⟨rfl, hb1⟩)
      | (go_at_call 19; refine (refGaps_no d A n c l _ (HB.out.below hb1) HN.out (by omega) HM.out).mono ?_; rintro e w2 ⟨rfl, hb2⟩)
      | (go_at_call 15; refine (same_law none 0 0 none 0 [] _ (Rs.nil _ _) (Rs.nil _ _) rfl (by omega)).mono ?_; rintro e w3 ⟨rfl, hb3⟩))
    go_ret
    exact ⟨rfl, bthen (bthen hb1 hb2) hb3⟩
  · have hlen := (mayB_len hm).2.2.1
    have HG : Hid ((gapsR d l).length = n) := Lib.hid (by rw [gapsR_len, hn])
    rw [hn] at hlen
    have HB := Lib.hid hb
    have HN := Lib.hid hn
    have HM := Lib.hid hm
    clear hb hn hm
    go_enter Try.func6, Try.ntmps6
    go_wp2_with (first
      | (go_at_call 18; refine (gaps_ok d A n c l _ HB.out HN.out hlen HM.out).mono ?_; rintro e w1 ⟨A1, c1, rfl, ho1, hb1⟩; have O1 := Lib.hid ho1; clear ho1)
      | (go_at_call 19; refine (refGaps_ok d A n c l _ (HB.out.below hb1) HN.out hlen HM.out).mono ?_; rintro e w2 ⟨A2, c2, rfl, ho2, hb2⟩; have O2 := Lib.hid ho2; clear ho2)
      | (go_at_call 15; refine (same_law A1 n c1 A2 c2 (gapsR d l) _ (O1.out.rs.below hb2) O2.out.rs HG.out (by omega)).mono ?_; rintro e w3 ⟨rfl, hb3⟩))
    go_ret
    exact ⟨rfl, bthen (bthen hb1 hb2) hb3⟩

end Go.Proofs.Ytdfidmdgdajgoaa
