/-
  Contract of hole.May (the project's alone: for layers that have no document's hole).
-/
import Derived.Test.YtehckiihipnimaaRg
import Derived.Test.YtehckiihipnimaaKit
namespace Go.Proofs.Ytehckiihipnimaa
open Go.RowKit
set_option linter.unusedVariables false

theorem may_any (d : Int) (A : Option Addr) (n c : Nat) (l : List Rg) (w : World) (hb : Rs w A l) (hn : l.length = n) (h47 : n ≤ 140737488355328) :
    Calls Try.prog 76 #[.int .i64 d, .slice A n c] w fun e w' => e = .returned (.bool (mayB d l)) ∧ Below w.heap.size w w' := by
  have HB := Lib.hid hb
  have HN := Lib.hid hn
  clear hb hn
  by_cases h0 : 0 ≤ d ∧ d ≤ 1048576 ∧ n ≤ 16
  · obtain ⟨h0, h1, h2⟩ := h0
    have HM : Hid (mayB d l = okB d l) := Lib.hid (by unfold mayB; have := HN.out; simp only [h0, h1, decide_true, Bool.true_and]; simp; intro; omega)
    go_enter Try.func76, Try.ntmps76
    go_wp2
    go_loopw [5, 22] (fun e i wr => ∃ (k : Nat) (z : Int), k ≤ n ∧ i = .int .i64 k ∧ e = .int .i64 z ∧ okB d l = okB z (l.drop k) ∧ Below w.heap.size w wr) (fun _ i _ => n - (intOf i).toNat)
    case atStart => exact ⟨0, d, Nat.zero_le _, rfl, rfl, rfl, Below.refl _ _⟩
    case round =>
      obtain ⟨k, z, hk, rfl, rfl, hz, hb1⟩ := hrel
      have HZ := Lib.hid hz
      clear hz
      by_cases hlt : k < n
      · obtain ⟨⟨x1, x2⟩, hx, hd⟩ := drop_at l k (by rw [HN.out]; exact hlt)
        obtain ⟨b, o, rfl, hbs, hc1, hc2⟩ := (HB.out.below hb1).at k _ hx
        have HD := Lib.hid hd
        clear hd hx
        simp only at hc1 hc2
        by_cases hok : z < x1 ∧ x1 < x2 ∧ x2 ≤ 1048576
        · obtain ⟨g1, g2, g3⟩ := hok
          go_wp2
          go_roundw
          case rel => exact ⟨k + 1, x2, by omega, by go_num, rfl, by rw [HZ.out, HD.out]; simp [okB, g1, g2, g3], hb1.alloc hb1.size _⟩
          case measure => simp [intOf]; omega
        · have hf : Hid (mayB d l = false) := Lib.hid (by rw [HM.out, HZ.out, HD.out]; simp only [okB, Bool.and_eq_false_iff, decide_eq_false_iff_not]; omega)
          go_wp2
          all_goals
            go_ret
            exact ⟨by rw [hf.out]; rfl, hb1.alloc hb1.size _⟩
      · have hf : Hid (mayB d l = true) := Lib.hid (by rw [HM.out, HZ.out, List.drop_eq_nil_of_le (by rw [HN.out]; omega)]; rfl)
        go_wp2
        go_ret
        exact ⟨by rw [hf.out]; rfl, hb1⟩
  · have hf : Hid (mayB d l = false) := Lib.hid (by unfold mayB; simp only [Bool.and_eq_false_iff, decide_eq_false_iff_not]; have := HN.out; omega)
    go_enter Try.func76, Try.ntmps76
    go_wp2
    all_goals
      go_ret
      exact ⟨by rw [hf.out]; rfl, Below.refl _ _⟩

end Go.Proofs.Ytehckiihipnimaa
