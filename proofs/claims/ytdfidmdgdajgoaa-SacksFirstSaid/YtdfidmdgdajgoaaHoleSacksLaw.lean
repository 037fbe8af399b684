/-
  The walk of packthreadlaw's statement on Sacks.
-/
import Derived.Test.YtdfidmdgdajgoaaHoleSacks
import Derived.Test.YtdfidmdgdajgoaaHoleSame
namespace Go.Proofs.Ytdfidmdgdajgoaa
open Go.RowKit
set_option linter.unusedVariables false
set_option linter.unusedSimpArgs false

theorem sacks_form (d : Int) (A : Option Addr) (n c : Nat) (l : List Rg) (last k : Int) (w : World) (hb : Rs w A l) (hn : l.length = n) (h47 : n ≤ 140737488355328) (hm : mayB d l = false) :
    Calls Try.prog 16 #[.int .i64 d, .slice A n c, .int .i64 last, .int .i64 k] w fun e w' => e = .returned (.tuple #[.slice none 0 0, .int .i64 4]) ∧ Below w.heap.size w w' := by
  have HB := Lib.hid hb
  have HN := Lib.hid hn
  have HM := Lib.hid hm
  clear hb hn hm
  go_enter Try.func16, Try.ntmps16
  go_wp2_with (go_at_call 11; refine (may_any d A n c l _ (HB.out.below (ba1 _ _)) HN.out h47).mono ?_; rw [HM.out]; rintro e w1 ⟨rfl, hb1⟩)
  go_ret2
  exact ⟨by simp, bthen (ba1 _ _) hb1⟩

theorem sacks_range (d : Int) (A : Option Addr) (n c : Nat) (l : List Rg) (last k : Int) (w : World) (hb : Rs w A l) (hn : l.length = n) (h47 : n ≤ 140737488355328) (hm : mayB d l = true) (hk : k < 0 ∨ 16 < k) :
    Calls Try.prog 16 #[.int .i64 d, .slice A n c, .int .i64 last, .int .i64 k] w fun e w' => e = .returned (.tuple #[.slice none 0 0, .int .i64 2]) ∧ Below w.heap.size w w' := by
  have HB := Lib.hid hb
  have HN := Lib.hid hn
  have HM := Lib.hid hm
  clear hb hn hm
  rcases hk with hk | hk
  all_goals
    go_enter Try.func16, Try.ntmps16
    go_wp2_with (go_at_call 11; refine (may_any d A n c l _ (HB.out.below (ba1 _ _)) HN.out h47).mono ?_; rw [HM.out]; rintro e w1 ⟨rfl, hb1⟩)
    go_ret2
    exact ⟨by simp, bthen (ba1 _ _) hb1⟩

/-- the two answers, the length named -/
theorem sacks_v (d : Int) (A : Option Addr) (n c : Nat) (l : List Rg) (last : Int) (m : Nat) (L : List Rg) (N : Nat) (w : World) (hL : L = (sackAll last l).take m) (hN : L.length = N) (hb : Rs w A l) (hn : l.length = n) (hm : mayB d l = true) (hk : m ≤ 16) :
    Calls Try.prog 16 #[.int .i64 d, .slice A n c, .int .i64 last, .int .i64 (m : Int)] w fun e w' => ∃ A' c', e = .returned (.tuple #[.slice A' N c', .int .i64 0]) ∧ Rs w' A' L ∧ Below w.heap.size w w' := by
  subst hL; subst hN
  exact sacks_ok d A n c l last m w hb hn hm hk
theorem refSacks_v (d : Int) (A : Option Addr) (n c : Nat) (l : List Rg) (last : Int) (m : Nat) (L : List Rg) (N : Nat) (w : World) (hL : L = (sackAll last l).take m) (hN : L.length = N) (hb : Rs w A l) (hn : l.length = n) (hm : mayB d l = true) (hk : m ≤ 16) :
    Calls Try.prog 17 #[.int .i64 d, .slice A n c, .int .i64 last, .int .i64 (m : Int)] w fun e w' => ∃ A' c', e = .returned (.tuple #[.slice A' N c', .int .i64 0]) ∧ Rs w' A' L ∧ Below w.heap.size w w' := by
  subst hL; subst hN
  exact refSacks_ok d A n c l last m w hb hn hm hk

theorem walkHoleSacks (d : Int) (A : Option Addr) (n c : Nat) (l : List Rg) (last k : Int) (w : World) (hb : Rs w A l) (hn : l.length = n) (hc : n ≤ c) (hr : c ≤ 8796093021952) :
    Calls Try.prog 5 #[.int .i64 d, .slice A n c, .int .i64 last, .int .i64 k] w fun e w' => e = .returned (.bool true) ∧ Below w.heap.size w w' := by
  have HB := Lib.hid hb
  have HN := Lib.hid hn
  clear hb hn
  rcases hm : mayB d l with _ | _
  · have HM := Lib.hid hm
    clear hm
    go_enter Try.func5, Try.ntmps5
    go_wp2_with (first
      | (go_at_call 16; refine (sacks_form d A n c l last k _ HB.out HN.out (by omega) HM.out).mono ?_; rintro e w1 ⟨rfl, hb1⟩)
      | (go_at_call 17; refine (refSacks_form d A n c l last k _ (HB.out.below hb1) HN.out (by omega) HM.out).mono ?_; rintro e w2 ⟨rfl, hb2⟩)
      | (go_at_call 15; refine (same_law none 0 0 none 0 [] _ (Rs.nil _ _) (Rs.nil _ _) rfl (by omega)).mono ?_; rintro e w3 ⟨rfl, hb3⟩))
    go_ret
    exact ⟨rfl, bthen (bthen hb1 hb2) hb3⟩
  · have HM := Lib.hid hm
    clear hm
    by_cases hk : k < 0 ∨ 16 < k
    · have HK := Lib.hid hk
      clear hk
      go_enter Try.func5, Try.ntmps5
      go_wp2_with (first
        | (go_at_call 16; refine (sacks_range d A n c l last k _ HB.out HN.out (by omega) HM.out HK.out).mono ?_; rintro e w1 ⟨rfl, hb1⟩)
        | (go_at_call 17; refine (refSacks_range d A n c l last k _ (HB.out.below hb1) HN.out (by omega) HM.out HK.out).mono ?_; rintro e w2 ⟨rfl, hb2⟩)
        | (go_at_call 15; refine (same_law none 0 0 none 0 [] _ (Rs.nil _ _) (Rs.nil _ _) rfl (by omega)).mono ?_; rintro e w3 ⟨rfl, hb3⟩))
      go_ret
      exact ⟨rfl, bthen (bthen hb1 hb2) hb3⟩
    · obtain ⟨m, rfl⟩ : ∃ m : Nat, k = (m : Int) := ⟨k.toNat, by omega⟩
      have hm16 : m ≤ 16 := by omega
      obtain ⟨L, hL⟩ : ∃ L, L = (sackAll last l).take m := ⟨_, rfl⟩
      obtain ⟨N, hN⟩ : ∃ N, N = L.length := ⟨_, rfl⟩
      have hN16 : N ≤ 16 := by rw [hN, hL, List.length_take]; omega
      have HL := Lib.hid hL; have HNN := Lib.hid hN.symm
      clear hk hL hN
      go_enter Try.func5, Try.ntmps5
      go_wp2_with (first
        | (go_at_call 16; refine (sacks_v d A n c l last m L N _ HL.out HNN.out HB.out HN.out HM.out hm16).mono ?_; rintro e w1 ⟨A1, c1, rfl, hs1, hb1⟩; have S1 := Lib.hid hs1; clear hs1)
        | (go_at_call 17; refine (refSacks_v d A n c l last m L N _ HL.out HNN.out (HB.out.below hb1) HN.out HM.out hm16).mono ?_; rintro e w2 ⟨A2, c2, rfl, hs2, hb2⟩; have S2 := Lib.hid hs2; clear hs2)
        | (go_at_call 15; refine (same_law A1 N c1 A2 c2 L _ (S1.out.below hb2) S2.out HNN.out (by omega)).mono ?_; rintro e w3 ⟨rfl, hb3⟩))
      go_ret
      exact ⟨rfl, bthen (bthen hb1 hb2) hb3⟩

end Go.Proofs.Ytdfidmdgdajgoaa
