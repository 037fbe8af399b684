/-
  packthreadkeep.Stream: its contract.
-/
import Derived.Test.YtdilpebhecmjmaaIns
import Derived.Test.YtdilpebhecmjmaaBy
import Derived.Test.YtdilpebhecmjmaaPicked
import Derived.Deep.DeepCutAuto
import Derived.Laws.NewBlocks
namespace Go.Proofs.Ytdilpebhecmjmaa
open Go.RowKit
set_option linter.unusedVariables false
set_option linter.unusedSimpArgs false

theorem tdiv_in {a k : Int} (hk : 1 ≤ k) (h : i64in a) : i64in (a.tdiv k) := by
  obtain ⟨h1, h2⟩ := h
  have hd : ∀ b : Int, 0 ≤ b → 0 ≤ b / k ∧ b / k ≤ b := fun b hb => ⟨Int.ediv_nonneg hb (by omega), Int.ediv_le_self k hb⟩
  rcases Int.le_total 0 a with h0 | h0
  · rw [Int.tdiv_eq_ediv_of_nonneg h0]
    have := hd a h0
    exact ⟨by omega, by omega⟩
  · have e : a.tdiv k = -((-a).tdiv k) := by rw [Int.neg_tdiv, Int.neg_neg]
    rw [e, Int.tdiv_eq_ediv_of_nonneg (by omega)]
    have := hd (-a) (by omega)
    exact ⟨by omega, by omega⟩
theorem wrap_in {a : Int} (h : i64in a) : IntKind.i64.wrap a = a := by
  obtain ⟨h1, h2⟩ := h
  rw [IntKind.wrap_i64]
  omega
theorem u8_in (a : Int) : 0 ≤ IntKind.u8.wrap a ∧ IntKind.u8.wrap a ≤ 255 := by
  simp only [IntKind.wrap, IntKind.bits, IntKind.signed]
  simp
  omega

/-- what Stream answers -/
def RetSt (w : World) (m : Nat) (e : Ending) (w' : World) : Prop :=
  ∃ A c zs, e = .returned (.slice A m c) ∧ OwnL byS 5 w' w.heap.size A m c zs ∧ (∀ z ∈ zs, 0 ≤ z ∧ z ≤ 255) ∧ Below w.heap.size w w'

set_option maxHeartbeats 2000000 in
theorem stream_any (seed : Int) (m : Nat) (w : World) (s1 : -9223372036854775808 ≤ seed) (s2 : seed ≤ 9223372036854775807) (hm : m ≤ 1000) :
    Calls Try.prog 17 #[.int .i64 seed, .int .i64 m] w (RetSt w m) := by
  obtain ⟨sd, hsd, hsd2⟩ := pick_nat seed 251 (by omega)
  go_enter Try.func17, Try.ntmps17
  go_wp2
  go_loopw [5, 6] (fun o i wr => ∃ (k : Nat) (A : Option Addr) (c : Nat) (zs : List Int), k ≤ m ∧ i = .int .i64 k ∧ o = .slice A k c ∧ OwnL byS 5 wr w.heap.size A k c zs ∧ (∀ z ∈ zs, 0 ≤ z ∧ z ≤ 255) ∧ Below w.heap.size w wr) (fun _ i _ => m - (intOf i).toNat)
  case atStart => exact ⟨0, none, 0, [], Nat.zero_le _, rfl, rfl, OwnL.nil _ _, by simp, Below.refl _ _⟩
  case round =>
    obtain ⟨k, A, c', zs, hk, rfl, rfl, hown, hz, hbw⟩ := hrel
    have HOW := Lib.hid hown
    have HZ := Lib.hid hz
    have HBW := Lib.hid hbw
    clear hown hz hbw
    by_cases hlt : k < m
    · have hki : (k : Int) < (m : Int) := by omega
      obtain ⟨k7, hk7⟩ : ∃ q : Nat, q = k * 7 := ⟨_, rfl⟩
      obtain ⟨k36, hk36⟩ : ∃ q : Nat, q = k / 36 := ⟨_, rfl⟩
      have e1 : IntKind.i64.wrap ((k : Int) * 7) = (k7 : Int) := by rw [IntKind.wrap_i64]; omega
      have e2 : IntKind.i64.wrap ((sd : Int) + (k7 : Int)) = (sd : Int) + (k7 : Int) := by rw [IntKind.wrap_i64]; omega
      have e3 : ((k : Int)).tdiv 36 = (k36 : Int) := by rw [Int.tdiv_eq_ediv_of_nonneg (by omega)]; omega
      have e3w : IntKind.i64.wrap (k36 : Int) = (k36 : Int) := by rw [IntKind.wrap_i64]; omega
      have e4 : IntKind.i64.wrap ((sd : Int) + (k7 : Int) + (k36 : Int)) = (sd : Int) + (k7 : Int) + (k36 : Int) := by rw [IntKind.wrap_i64]; omega
      obtain ⟨v, hv⟩ : ∃ v, IntKind.u8.wrap ((sd : Int) + (k7 : Int) + (k36 : Int)) = v := ⟨_, rfl⟩
      have hvb : 0 ≤ v ∧ v ≤ 255 := by rw [← hv]; exact u8_in _
      have hw1 : IntKind.i64.wrap ((k : Int) + 1) = ((k + 1 : Nat) : Int) := by rw [IntKind.wrap_i64]; omega
      have HVB := Lib.hid hvb
      clear hk7 hk36 hvb
      go_wp2_with (first
        | (go_at_call 18; (with_reducible refine (picked_n seed 251 sd _ hsd s1 s2 (by omega) (by omega)).mono ?_); rintro e w' ⟨rfl, rfl⟩)
        | (at_builtin; refine wpList_appL (F := byS) rfl _ (.tmp 12) (.tmp 22) 22 rfl _ 1 Try.underlying22 byInfo rfl w.heap.size A k c' zs rfl (HOW.out.below (ba1 _ _)) (some ⟨wr.heap.size, 0, none⟩) 1 1 [v] rfl (ls_new wr _ _ _ rfl _ rfl) rfl (k + 1) rfl (by omega) (by omega) (by have := HBW.out.size; simp; omega) ?_; intro A8 c8 w8 ho8 hb8 hs8; have HO8 := Lib.hid ho8; have HB8 := Lib.hid hb8; clear ho8 hb8 hs8))
      refine ⟨⟨k + 1, A8, c8, zs ++ [v], by omega, by first | rfl | go_num, rfl, HO8.out, fun z hz => ?_, (HBW.out.trans ((ba1 wr _).mono HBW.out.size)).trans (HB8.out.mono (Nat.le_refl _))⟩, by simp [intOf]; omega⟩
      rcases List.mem_append.1 hz with hz | hz
      · exact HZ.out z hz
      · simp at hz; subst hz; exact HVB.out
    · obtain rfl : k = m := by omega
      have hki : ¬ (k : Int) < (k : Int) := by omega
      go_wp2
      go_ret
      exact ⟨A, c', zs, rfl, HOW.out, HZ.out, HBW.out⟩

end Go.Proofs.Ytdilpebhecmjmaa
