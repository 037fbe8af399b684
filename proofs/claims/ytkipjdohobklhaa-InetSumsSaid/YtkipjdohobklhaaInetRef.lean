/-
  Contracts of the document's answer for layer 2 (packthreadref.Inet..) over this seat's translation: in the same words as those of package inet.
-/
import Derived.Test.YtkipjdohobklhaaInet
import Derived.WalkKit
import Derived.Handy
import Derived.Lib.Hide
import Derived.Outline
namespace Go.Proofs.Ytkipjdohobklhaa
open Go.RowKit
set_option linter.unusedVariables false

theorem word_ok (s : Int) (w : World) (h0 : 0 ≤ s) (h1 : s ≤ 65535) :
    Calls Try.prog 25 #[.int .i64 s] w fun e w' => e = .returned (.bool true) ∧ w = w' := by
  have z : decide (s ≤ 65535) = true := by simp; omega
  go_enter Try.func25, Try.ntmps25
  go_wp2
  go_ret
  exact ⟨rfl, rfl⟩
theorem word_no (s : Int) (w : World) (h : s < 0 ∨ 65535 < s) :
    Calls Try.prog 25 #[.int .i64 s] w fun e w' => e = .returned (.bool false) ∧ w = w' := by
  rcases h with h | h
  · go_enter Try.func25, Try.ntmps25
    go_wp2
    go_ret
    exact ⟨rfl, rfl⟩
  · have z : decide (s ≤ 65535) = false := by simp; omega
    go_enter Try.func25, Try.ntmps25
    go_wp2
    go_ret
    exact ⟨rfl, rfl⟩

theorem fo_over (s : Int) (h : 65535 < s) (h1 : s ≤ 131070) : s - 65535 = fo s := by unfold fo; rw [if_neg (by omega)]; omega
theorem fo_same (s : Int) (h : 0 ≤ s) (h1 : s ≤ 65535) : s = fo s := by unfold fo; split <;> omega

theorem words2 (a c : Int) (b : Nat) (w : World) (hb : b = w.heap.size) (h0 : 0 ≤ a) (h1 : a ≤ 65535) (h2 : 0 ≤ c) (h3 : c ≤ 65535) :
    Calls Try.prog 26 #[.slice (some ⟨b, 0, none⟩) 2 2] (w.alloc (.cells #[.int .i64 a, .int .i64 c] 3)) fun e w' => e = .returned (.int .i64 (fo (a + c))) ∧ w.alloc (.cells #[.int .i64 a, .int .i64 c] 3) = w' := by
  subst hb
  by_cases g : 65535 < a + c
  · have e := Lib.hid (fo_over _ g (by omega))
    rw [← e.out]
    go_enter Try.func26, Try.ntmps26
    go_wp2
    go_rounds 3
    all_goals go_ret
    all_goals exact ⟨rfl, rfl⟩
  · have e := Lib.hid (fo_same (a + c) (by omega) (by omega))
    rw [← e.out]
    go_enter Try.func26, Try.ntmps26
    go_wp2
    go_rounds 3
    all_goals go_ret
    all_goals exact ⟨rfl, rfl⟩

theorem words3 (a c d : Int) (b : Nat) (w : World) (hb : b = w.heap.size) (h0 : 0 ≤ a) (h1 : a ≤ 65535) (h2 : 0 ≤ c) (h3 : c ≤ 65535) (h4 : 0 ≤ d) (h5 : d ≤ 65535) :
    Calls Try.prog 26 #[.slice (some ⟨b, 0, none⟩) 3 3] (w.alloc (.cells #[.int .i64 a, .int .i64 c, .int .i64 d] 3)) fun e w' => e = .returned (.int .i64 (fo (a + c + d))) ∧ w.alloc (.cells #[.int .i64 a, .int .i64 c, .int .i64 d] 3) = w' := by
  subst hb
  by_cases g : 65535 < a + c
  · have e1 : fo (a + c + d) = fo (a + c - 65535 + d) := by
      unfold fo; rw [if_neg (by omega), if_neg (by omega)]; omega
    by_cases g2 : 65535 < a + c - 65535 + d
    · have e := Lib.hid (fo_over (a + c - 65535 + d) g2 (by omega))
      rw [e1, ← e.out]
      clear e1
      go_enter Try.func26, Try.ntmps26
      go_wp2
      go_rounds 4
      all_goals go_ret
      all_goals exact ⟨rfl, rfl⟩
    · have e := Lib.hid (fo_same (a + c - 65535 + d) (by omega) (by omega))
      rw [e1, ← e.out]
      clear e1
      go_enter Try.func26, Try.ntmps26
      go_wp2
      go_rounds 4
      all_goals go_ret
      all_goals exact ⟨rfl, rfl⟩
  · by_cases g2 : 65535 < a + c + d
    · have e := Lib.hid (fo_over (a + c + d) g2 (by omega))
      rw [← e.out]
      go_enter Try.func26, Try.ntmps26
      go_wp2
      go_rounds 4
      all_goals go_ret
      all_goals exact ⟨rfl, rfl⟩
    · have e := Lib.hid (fo_same (a + c + d) (by omega) (by omega))
      rw [← e.out]
      go_enter Try.func26, Try.ntmps26
      go_wp2
      go_rounds 4
      all_goals go_ret
      all_goals exact ⟨rfl, rfl⟩

theorem refjoin_ok (a b : Int) (odd : Bool) (w : World) (h0 : 0 ≤ a) (h1 : a ≤ 65535) (h2 : 0 ≤ b) (h3 : b ≤ 65535) :
    Calls Try.prog 16 #[.int .i64 a, .int .i64 b, .bool odd] w fun e w' => e = .returned (.tuple #[.int .i64 (joined a b odd), .int .i64 0]) ∧ Below w.heap.size w w' := by
  cases odd
  · have e : Hid (joined a b false = fo (a + b)) := Lib.hid (by simp [joined])
    go_enter Try.func16, Try.ntmps16
    go_wp2_with (first | (go_at_call 25; refine (word_ok _ _ (by omega) (by omega)).mono ?_; rintro e w' ⟨rfl, rfl⟩) | (go_at_call 25; refine (word_no _ _ (by omega)).mono ?_; rintro e w' ⟨rfl, rfl⟩) | (go_at_call 26; refine (words2 _ _ _ _ (by first | rfl | simp) (by omega) (by omega) (by omega) (by omega)).mono ?_; rintro e w' ⟨rfl, rfl⟩))
    go_ret2
    exact ⟨by rw [e.out]; rfl, (Below.refl _ _).alloc (Nat.le_refl _) _⟩
  · have e : Hid (joined a b true = fo (a + (b % 256 * 256 + b / 256))) := Lib.hid (by simp [joined])
    go_enter Try.func16, Try.ntmps16
    go_wp2_with (first | (go_at_call 25; refine (word_ok _ _ (by omega) (by omega)).mono ?_; rintro e w' ⟨rfl, rfl⟩) | (go_at_call 25; refine (word_no _ _ (by omega)).mono ?_; rintro e w' ⟨rfl, rfl⟩) | (go_at_call 26; refine (words2 _ _ _ _ (by first | rfl | simp) (by omega) (by omega) (by omega) (by omega)).mono ?_; rintro e w' ⟨rfl, rfl⟩))
    go_ret2
    exact ⟨by rw [e.out]; rfl, (Below.refl _ _).alloc (Nat.le_refl _) _⟩

theorem refjoin_no (a b : Int) (odd : Bool) (w : World) (h : a < 0 ∨ 65535 < a ∨ b < 0 ∨ 65535 < b) :
    Calls Try.prog 16 #[.int .i64 a, .int .i64 b, .bool odd] w fun e w' => e = .returned (.tuple #[.int .i64 0, .int .i64 2]) ∧ w = w' := by
  have h' : (a < 0 ∨ 65535 < a) ∨ (0 ≤ a ∧ a ≤ 65535) ∧ (b < 0 ∨ 65535 < b) := by omega
  clear h
  rcases h' with h | ⟨⟨g0, g1⟩, h⟩
  all_goals
    go_enter Try.func16, Try.ntmps16
    go_wp2_with (first | (go_at_call 25; refine (word_ok _ _ (by omega) (by omega)).mono ?_; rintro e w' ⟨rfl, rfl⟩) | (go_at_call 25; refine (word_no _ _ (by omega)).mono ?_; rintro e w' ⟨rfl, rfl⟩))
    go_ret2
    exact ⟨rfl, rfl⟩

theorem refupdate_ok (sum was is : Int) (w : World) (h0 : 0 ≤ sum) (h1 : sum ≤ 65535) (h2 : 0 ≤ was) (h3 : was ≤ 65535) (h4 : 0 ≤ is) (h5 : is ≤ 65535) :
    Calls Try.prog 18 #[.int .i64 sum, .int .i64 was, .int .i64 is] w fun e w' => e = .returned (.tuple #[.int .i64 (mended sum was is), .int .i64 0]) ∧ Below w.heap.size w w' := by
  have e : Hid (mended sum was is = 65535 - fo (65535 - sum + (65535 - was) + is)) := Lib.hid (by unfold mended; congr 2; omega)
  have hf := fo_bd (65535 - sum + (65535 - was) + is) (by omega)
  go_enter Try.func18, Try.ntmps18
  go_wp2_with (first | (go_at_call 25; refine (word_ok _ _ (by omega) (by omega)).mono ?_; rintro e w' ⟨rfl, rfl⟩) | (go_at_call 25; refine (word_no _ _ (by omega)).mono ?_; rintro e w' ⟨rfl, rfl⟩) | (go_at_call 26; refine (words3 _ _ _ _ _ (by first | rfl | simp) (by omega) (by omega) (by omega) (by omega) (by omega) (by omega)).mono ?_; rintro e w' ⟨rfl, rfl⟩))
  go_ret2
  exact ⟨by rw [e.out]; rfl, (Below.refl _ _).alloc (Nat.le_refl _) _⟩

theorem refupdate_no (sum was is : Int) (w : World) (h : sum < 0 ∨ 65535 < sum ∨ was < 0 ∨ 65535 < was ∨ is < 0 ∨ 65535 < is) :
    Calls Try.prog 18 #[.int .i64 sum, .int .i64 was, .int .i64 is] w fun e w' => e = .returned (.tuple #[.int .i64 0, .int .i64 2]) ∧ w = w' := by
  have h' : (sum < 0 ∨ 65535 < sum) ∨ (0 ≤ sum ∧ sum ≤ 65535) ∧ ((was < 0 ∨ 65535 < was) ∨ (0 ≤ was ∧ was ≤ 65535) ∧ (is < 0 ∨ 65535 < is)) := by omega
  clear h
  rcases h' with h | ⟨⟨g0, g1⟩, h | ⟨⟨g2, g3⟩, h⟩⟩
  all_goals
    go_enter Try.func18, Try.ntmps18
    go_wp2_with (first | (go_at_call 25; refine (word_ok _ _ (by omega) (by omega)).mono ?_; rintro e w' ⟨rfl, rfl⟩) | (go_at_call 25; refine (word_no _ _ (by omega)).mono ?_; rintro e w' ⟨rfl, rfl⟩))
    go_ret2
    exact ⟨rfl, rfl⟩

theorem reffold_any (A : Option Addr) (n c : Nat) (zs : List Int) (w : World) (hb : Bs w A zs) (hn : zs.length = n) (h47 : n ≤ 140737488355328) :
    Calls Try.prog 13 #[.slice A n c] w fun e w' => e = .returned (.int .i64 (fo (tot 0 zs))) ∧ w = w' := by
  have HB := Lib.hid hb
  have HN := Lib.hid hn
  clear hb hn
  go_enter Try.func13, Try.ntmps13
  go_wp2
  go_loop [3, 4] (fun s i => ∃ k : Nat, k % 2 = 0 ∧ k ≤ n + 1 ∧ i = .int .i64 k ∧ s = .int .i64 (fo (tot 0 (zs.take k)))) (fun _ i => n + 1 - (intOf i).toNat)
  case atStart => exact ⟨0, rfl, Nat.zero_le _, rfl, rfl⟩
  case round =>
    obtain ⟨k, hk2, hk, rfl, rfl⟩ := hrel
    have hbd0 : 0 ≤ tot 0 (zs.take k) := (tot_bd0 _ (fun z hz => HB.out.1 z (List.mem_of_mem_take hz))).1
    have hbd := fo_bd (tot 0 (zs.take k)) hbd0
    obtain ⟨s, hs⟩ : ∃ s, s = fo (tot 0 (zs.take k)) := ⟨_, rfl⟩
    rw [← hs] at hbd ⊢
    obtain ⟨s0, s1⟩ := hbd
    have HK := Lib.hid hk2
    clear hk2
    by_cases hlt : k < n
    · obtain ⟨b, o, x, rfl, hc, x0, x1, hx⟩ := HB.out.at k (by rw [HN.out]; exact hlt)
      have ht := tot_take zs k (by rw [HN.out]; exact hlt)
      rw [if_pos HK.out, ← hx] at ht
      by_cases hl2 : k + 1 < n
      · have hl2' : (k : Int) + 1 < n := by omega
        obtain ⟨b', o', y, hA, hc2, y0, y1, hy⟩ := HB.out.at (k + 1) (by rw [HN.out]; exact hl2)
        obtain ⟨rfl, rfl⟩ : b = b' ∧ o = o' := by injection hA with hA; injection hA with h1 h2 h3; exact ⟨h1, h2⟩
        clear hA
        have ht2 := tot_take zs (k + 1) (by rw [HN.out]; exact hl2)
        rw [if_neg (by have := HK.out; omega), ← hy, ht] at ht2
        have e1 : fo (tot 0 (zs.take (k + 1 + 1))) = fo (s + (256 * x + y)) := by
          rw [ht2, hs, fo_add _ _ hbd0 (by omega), Int.add_assoc]
        by_cases g : 65535 < s + (256 * x + y)
        · have E : Hid (s + (256 * x + y) - 65535 = fo (tot 0 (zs.take (k + 2)))) := Lib.hid (by rw [e1]; exact fo_over _ g (by omega))
          clear e1 ht ht2 hx hy hs
          go_wp2
          go_round
          case rel => exact ⟨k + 2, by have := HK.out; omega, by omega, by go_num, by rw [← E.out]⟩
          case measure => simp [intOf]; omega
        · have E : Hid (s + (256 * x + y) = fo (tot 0 (zs.take (k + 2)))) := Lib.hid (by rw [e1]; exact fo_same _ (by omega) (by omega))
          clear e1 ht ht2 hx hy hs
          go_wp2
          go_round
          case rel => exact ⟨k + 2, by have := HK.out; omega, by omega, by go_num, by rw [← E.out]⟩
          case measure => simp [intOf]; omega
      · have e0 : zs.take (k + 2) = zs.take (k + 1) := by rw [List.take_of_length_le (by rw [HN.out]; omega), List.take_of_length_le (by rw [HN.out]; omega)]
        have e1 : fo (tot 0 (zs.take (k + 2))) = fo (s + 256 * x) := by
          rw [e0, ht, hs, fo_add _ _ hbd0 (by omega)]
        by_cases g : 65535 < s + 256 * x
        · have E : Hid (s + 256 * x - 65535 = fo (tot 0 (zs.take (k + 2)))) := Lib.hid (by rw [e1]; exact fo_over _ g (by omega))
          clear e0 e1 ht hx hs
          go_wp2
          go_round
          case rel => exact ⟨k + 2, by have := HK.out; omega, by omega, by go_num, by rw [← E.out]⟩
          case measure => simp [intOf]; omega
        · have E : Hid (s + 256 * x = fo (tot 0 (zs.take (k + 2)))) := Lib.hid (by rw [e1]; exact fo_same _ (by omega) (by omega))
          clear e0 e1 ht hx hs
          go_wp2
          go_round
          case rel => exact ⟨k + 2, by have := HK.out; omega, by omega, by go_num, by rw [← E.out]⟩
          case measure => simp [intOf]; omega
    · have HS : Hid (s = fo (tot 0 zs)) := Lib.hid (by rw [hs, List.take_of_length_le (by rw [HN.out]; omega)])
      clear hs
      go_wp2
      go_ret
      exact ⟨by rw [← HS.out]; rfl, rfl⟩

end Go.Proofs.Ytkipjdohobklhaa
