/-
  Comparisons of ranges: where they are the same.
-/
import Derived.Test.YtehckiihipnimaaSameLaw
namespace Go.Proofs.Ytehckiihipnimaa
open Go.RowKit
set_option linter.unusedVariables false
set_option linter.unusedSimpArgs false

theorem same_rgsl (A : Option Addr) (n c : Nat) (B : Option Addr) (d : Nat) (l : List Rg) (w : World) (ha : Ls rgS w A l) (hb : Ls rgS w B l) (hn : l.length = n) (h47 : n ≤ 140737488355328) :
    Calls Try.prog 27 #[.slice A n c, .slice B n d] w fun e w' => e = .returned (.bool true) ∧ Below w.heap.size w w' := by
  have HA := Lib.hid ha
  have HB := Lib.hid hb
  have HN := Lib.hid hn
  clear ha hb hn
  go_enter Try.func27, Try.ntmps27
  go_wp2
  go_loopw [5] (fun i wr => ∃ k : Nat, k ≤ n ∧ i = .int .i64 k ∧ Below w.heap.size w wr) (fun i _ => n - (intOf i).toNat)
  case atStart => exact ⟨0, Nat.zero_le _, rfl, Below.refl _ _⟩
  case round =>
    obtain ⟨k, hk, rfl, hb1⟩ := hrel
    by_cases hlt : k < n
    · obtain ⟨⟨x1, x2⟩, hx⟩ : ∃ x, l[k]? = some x := ⟨_, List.getElem?_eq_getElem (by rw [HN.out]; exact hlt)⟩
      obtain ⟨b, o, rfl, hbs, g1⟩ := (HA.out.below hb1).at k _ hx
      obtain ⟨b', o', rfl, hbs', g2⟩ := (HB.out.below hb1).at k _ hx
      have hc1 := g1 0 (.int .i64 x1) rfl
      have hc2 := g1 1 (.int .i64 x2) rfl
      have hc3 := g2 0 (.int .i64 x1) rfl
      have hc4 := g2 1 (.int .i64 x2) rfl
      simp only [rgS, Nat.add_zero] at hc1 hc2 hc3 hc4
      clear hx g1 g2
      go_wp2
      go_quiet (fail)
      go_wp2
      go_roundw
      case rel => exact ⟨k + 1, by omega, by go_num, below_drewN hb1 _⟩
      case measure => simp [intOf]; omega
    · go_wp2
      go_ret
      exact ⟨rfl, hb1⟩

end Go.Proofs.Ytehckiihipnimaa
