/-
  Contracts of sameRanges, of the layer's exact statements and of those without the document's answer: two lists of the same ranges are the same.
-/
import Derived.Test.YtdfidmdgdajgoaaHole
import Derived.BigQuiet
import Derived.Deep.QuietTactic
namespace Go.Proofs.Ytdfidmdgdajgoaa
open Go.RowKit
set_option linter.unusedVariables false

theorem below_drewN {B : Nat} {a w : World} (h : Below B a w) : ∀ n, Below B a (w.drewN n)
  | 0 => h
  | n + 1 => by first | exact below_drewN h.drew n | exact (below_drewN h n).drew

theorem same_law (A : Option Addr) (n c : Nat) (B : Option Addr) (d : Nat) (l : List Rg) (w : World) (ha : Rs w A l) (hb : Rs w B l) (hn : l.length = n) (h47 : n ≤ 140737488355328) :
    Calls Try.prog 15 #[.slice A n c, .slice B n d] w fun e w' => e = .returned (.bool true) ∧ Below w.heap.size w w' := by
  have HA := Lib.hid ha
  have HB := Lib.hid hb
  have HN := Lib.hid hn
  clear ha hb hn
  go_enter Try.func15, Try.ntmps15
  go_wp2
  go_loopw [5] (fun i wr => ∃ k : Nat, k ≤ n ∧ i = .int .i64 k ∧ Below w.heap.size w wr) (fun i _ => n - (intOf i).toNat)
  case atStart => exact ⟨0, Nat.zero_le _, rfl, Below.refl _ _⟩
  case round =>
    obtain ⟨k, hk, rfl, hb1⟩ := hrel
    by_cases hlt : k < n
    · obtain ⟨⟨x1, x2⟩, hx, _⟩ := drop_at l k (by rw [HN.out]; exact hlt)
      obtain ⟨b, o, rfl, hbs, hc1, hc2⟩ := (HA.out.below hb1).at k _ hx
      obtain ⟨b', o', rfl, hbs', hc3, hc4⟩ := (HB.out.below hb1).at k _ hx
      clear hx
      simp only at hc1 hc2 hc3 hc4
      go_wp2
      go_quiet (fail)
      go_wp2
      go_roundw
      case rel => exact ⟨k + 1, by omega, by go_num, below_drewN hb1 _⟩
      case measure => simp [intOf]; omega
    · go_wp2
      go_ret
      exact ⟨rfl, hb1⟩

theorem same_keep (A : Option Addr) (n c : Nat) (B : Option Addr) (d : Nat) (l : List Rg) (w : World) (ha : Rs w A l) (hb : Rs w B l) (hn : l.length = n) (h47 : n ≤ 140737488355328) :
    Calls Try.prog 22 #[.slice A n c, .slice B n d] w fun e w' => e = .returned (.bool true) ∧ Below w.heap.size w w' := by
  have HA := Lib.hid ha
  have HB := Lib.hid hb
  have HN := Lib.hid hn
  clear ha hb hn
  go_enter Try.func22, Try.ntmps22
  go_wp2
  go_loopw [5] (fun i wr => ∃ k : Nat, k ≤ n ∧ i = .int .i64 k ∧ Below w.heap.size w wr) (fun i _ => n - (intOf i).toNat)
  case atStart => exact ⟨0, Nat.zero_le _, rfl, Below.refl _ _⟩
  case round =>
    obtain ⟨k, hk, rfl, hb1⟩ := hrel
    by_cases hlt : k < n
    · obtain ⟨⟨x1, x2⟩, hx, _⟩ := drop_at l k (by rw [HN.out]; exact hlt)
      obtain ⟨b, o, rfl, hbs, hc1, hc2⟩ := (HA.out.below hb1).at k _ hx
      obtain ⟨b', o', rfl, hbs', hc3, hc4⟩ := (HB.out.below hb1).at k _ hx
      clear hx
      simp only at hc1 hc2 hc3 hc4
      go_wp2
      go_quiet (fail)
      go_wp2
      go_roundw
      case rel => exact ⟨k + 1, by omega, by go_num, below_drewN hb1 _⟩
      case measure => simp [intOf]; omega
    · go_wp2
      go_ret
      exact ⟨rfl, hb1⟩

end Go.Proofs.Ytdfidmdgdajgoaa
