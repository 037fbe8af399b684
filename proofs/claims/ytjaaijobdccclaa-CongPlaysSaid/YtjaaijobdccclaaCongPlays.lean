/-
  The walk of CongPlays.
-/
import Derived.Test.YtjaaijobdccclaaCongRef
namespace Go.Proofs.Ytjaaijobdccclaa
open Go.RowKit
set_option linter.unusedVariables false
set_option linter.unusedSimpArgs false

set_option maxHeartbeats 2000000 in
theorem walkCongPlays (A : Option Addr) (n c : Nat) (l : List Sig) (w : World) (hb : Ls sgS w A l) (hn : l.length = n) (hc : n ≤ c) (hr : c ≤ 8796093021952) :
    Calls Try.prog 3 #[.slice A n c] w fun e w' => e = .returned (.bool true) ∧ Below w.heap.size w w' := by
  have HL := Lib.hid hb
  have HN := Lib.hid hn
  clear hb hn
  by_cases h300 : n ≤ 300
  · by_cases hcode : firstCode l = 0
    · have HZ := Lib.hid hcode
      clear hcode
      go_enter Try.func3, Try.ntmps3
      go_wp2_with (first
        | (go_at_call 8; (refine (play_ok A n c l _ HL.out HN.out h300 HZ.out).mono ?_); rintro e w1 ⟨A1, c1, rfl, ho1, hb1⟩; have HO1 := Lib.hid ho1; have HB1 := Lib.hid hb1; clear ho1 hb1)
        | (go_at_call 9; (refine (refPlay_ok A n c l _ (HL.out.below HB1.out) HN.out h300 HZ.out).mono ?_); rintro e w2 ⟨A2, c2, rfl, ho2, hb2⟩; have HO2 := Lib.hid ho2; have HO1b := Lib.hid (HO1.out.below hb2); have HB2 : Hid (Below w.heap.size w w2) := Lib.hid (bthen HB1.out hb2); clear ho2 hb2))
      go_loopw [7] (fun i wr => ∃ (k : Nat), k ≤ n ∧ i = .int .i64 k ∧ Below w2.heap.size w2 wr) (fun i _ => n - (intOf i).toNat)
      case atStart => exact ⟨0, Nat.zero_le _, rfl, Below.refl _ _⟩
      case round =>
        obtain ⟨k, hk, rfl, hbw⟩ := hrel
        have HW := Lib.hid hbw
        by_cases hlt : k < n
        · obtain ⟨⟨a, b, d⟩, hx⟩ : ∃ x, (plays wd0 l)[k]? = some x := ⟨_, List.getElem?_eq_getElem (by rw [plays_len, HN.out]; exact hlt)⟩
          obtain ⟨b1, o1, rfl, h10, h11⟩ := (HO1b.out.below hbw).ls.at k _ hx
          obtain ⟨b2, o2, rfl, h20, h21⟩ := (HO2.out.below hbw).ls.at k _ hx
          have e10 := h11 0 (.int .i64 a) rfl
          have e11 := h11 1 (.int .i64 b) rfl
          have e12 := h11 2 (.int .i64 d) rfl
          have e20 := h21 0 (.int .i64 a) rfl
          have e21 := h21 1 (.int .i64 b) rfl
          have e22 := h21 2 (.int .i64 d) rfl
          simp only [wdS, Nat.add_zero] at e10 e11 e12 e20 e21 e22
          have hki : (k : Int) < (n : Int) := by omega
          clear h11 h21 hx hbw
          go_wp2_with fail
          go_quiet (fail)
          go_wp2
          exact ⟨⟨k + 1, by omega, by go_num, below_drewN HW.out _⟩, by simp [intOf]; omega⟩
        · go_wp2
          go_ret
          exact ⟨rfl, bthen HB2.out HW.out⟩
    · have HZ := Lib.hid hcode
      clear hcode
      go_enter Try.func3, Try.ntmps3
      go_wp2_with (first
        | (go_at_call 8; (refine (play_no A n c l _ HL.out HN.out h300 HZ.out).mono ?_); rintro e w1 ⟨rfl, hb1⟩; have HB1 := Lib.hid hb1; clear hb1)
        | (go_at_call 9; (refine (refPlay_no A n c l _ (HL.out.below HB1.out) HN.out h300 HZ.out).mono ?_); rintro e w2 ⟨rfl, hb2⟩; have HB2 : Hid (Below w.heap.size w w2) := Lib.hid (bthen HB1.out hb2); clear hb2))
      go_loopw [7] (fun i wr => i = .int .i64 0 ∧ Below w.heap.size w wr) (fun i _ => 0)
      case atStart => exact ⟨rfl, HB2.out⟩
      case round =>
        obtain ⟨rfl, hbw⟩ := hrel
        have HW := Lib.hid hbw
        clear hbw
        go_wp2
        go_ret
        exact ⟨rfl, HW.out⟩
  · go_enter Try.func3, Try.ntmps3
    go_wp2_with (first
      | (go_at_call 8; (refine (play_size A n c _ h300 (by omega)).mono ?_); rintro e w1 ⟨rfl, rfl⟩)
      | (go_at_call 9; (refine (refPlay_size A n c _ h300 (by omega)).mono ?_); rintro e w2 ⟨rfl, rfl⟩))
    go_loopw [7] (fun i wr => i = .int .i64 0 ∧ Below w.heap.size w wr) (fun i _ => 0)
    case atStart => exact ⟨rfl, Below.refl _ _⟩
    case round =>
      obtain ⟨rfl, hbw⟩ := hrel
      have HW := Lib.hid hbw
      clear hbw
      go_wp2
      go_ret
      exact ⟨rfl, HW.out⟩

end Go.Proofs.Ytjaaijobdccclaa
