/-
  Contract of packthreadref.InetFold: in the words of inet.Fold.
-/
import Derived.Test.YtgmpablmkpamaaaFold
namespace Go.Proofs.Ytgmpablmkpamaaa
open Go.RowKit
set_option linter.unusedVariables false

theorem fo_over (s : Int) (h : 65535 < s) (h1 : s ≤ 131070) : s - 65535 = fo s := by unfold fo; rw [if_neg (by omega)]; omega
theorem fo_same (s : Int) (h : 0 ≤ s) (h1 : s ≤ 65535) : s = fo s := by unfold fo; split <;> omega

theorem reffold_any (A : Option Addr) (n c : Nat) (zs : List Int) (w : World) (hb : Bs w A zs) (hn : zs.length = n) (h47 : n ≤ 140737488355328) :
    Calls Try.prog 28 #[.slice A n c] w fun e w' => e = .returned (.int .i64 (fo (tot 0 zs))) ∧ w = w' := by
  have HB := Lib.hid hb
  have HN := Lib.hid hn
  clear hb hn
  go_enter Try.func28, Try.ntmps28
  go_wp2
  go_loop [3, 4] (fun s i => ∃ k : Nat, k % 2 = 0 ∧ k ≤ n + 1 ∧ i = .int .i64 k ∧ s = .int .i64 (fo (tot 0 (zs.take k)))) (fun _ i => n + 1 - (intOf i).toNat)
  case atStart => exact ⟨0, rfl, Nat.zero_le _, rfl, rfl⟩
  case round =>
    obtain ⟨k, hk2, hk, rfl, rfl⟩ := hrel
    have hbd0 : 0 ≤ tot 0 (zs.take k) := (tot_bd0 _ (fun z hz => HB.out.1 z (List.mem_of_mem_take hz))).1
    have hbd := fo_bd (tot 0 (zs.take k)) hbd0
    obtain ⟨s, hs⟩ : ∃ s, s = fo (tot 0 (zs.take k)) := ⟨_, rfl⟩
    rw [← hs] at hbd ⊢
    obtain ⟨s0, s1⟩ := hbd
    have HK := Lib.hid hk2
    clear hk2
    by_cases hlt : k < n
    · obtain ⟨b, o, x, rfl, hc, x0, x1, hx⟩ := HB.out.at k (by rw [HN.out]; exact hlt)
      have ht := tot_take zs k (by rw [HN.out]; exact hlt)
      rw [if_pos HK.out, ← hx] at ht
      by_cases hl2 : k + 1 < n
      · have hl2' : (k : Int) + 1 < n := by omega
        obtain ⟨b', o', y, hA, hc2, y0, y1, hy⟩ := HB.out.at (k + 1) (by rw [HN.out]; exact hl2)
        obtain ⟨rfl, rfl⟩ : b = b' ∧ o = o' := by injection hA with hA; injection hA with h1 h2 h3; exact ⟨h1, h2⟩
        clear hA
        have ht2 := tot_take zs (k + 1) (by rw [HN.out]; exact hl2)
        rw [if_neg (by have := HK.out; omega), ← hy, ht] at ht2
        have e1 : fo (tot 0 (zs.take (k + 1 + 1))) = fo (s + (256 * x + y)) := by
          rw [ht2, hs, fo_add _ _ hbd0 (by omega), Int.add_assoc]
        by_cases g : 65535 < s + (256 * x + y)
        · have E : Hid (s + (256 * x + y) - 65535 = fo (tot 0 (zs.take (k + 2)))) := Lib.hid (by rw [e1]; exact fo_over _ g (by omega))
          clear e1 ht ht2 hx hy hs
          go_wp2
          go_round
          case rel => exact ⟨k + 2, by have := HK.out; omega, by omega, by go_num, by rw [← E.out]⟩
          case measure => simp [intOf]; omega
        · have E : Hid (s + (256 * x + y) = fo (tot 0 (zs.take (k + 2)))) := Lib.hid (by rw [e1]; exact fo_same _ (by omega) (by omega))
          clear e1 ht ht2 hx hy hs
          go_wp2
          go_round
          case rel => exact ⟨k + 2, by have := HK.out; omega, by omega, by go_num, by rw [← E.out]⟩
          case measure => simp [intOf]; omega
      · have e0 : zs.take (k + 2) = zs.take (k + 1) := by rw [List.take_of_length_le (by rw [HN.out]; omega), List.take_of_length_le (by rw [HN.out]; omega)]
        have e1 : fo (tot 0 (zs.take (k + 2))) = fo (s + 256 * x) := by
          rw [e0, ht, hs, fo_add _ _ hbd0 (by omega)]
        by_cases g : 65535 < s + 256 * x
        · have E : Hid (s + 256 * x - 65535 = fo (tot 0 (zs.take (k + 2)))) := Lib.hid (by rw [e1]; exact fo_over _ g (by omega))
          clear e0 e1 ht hx hs
          go_wp2
          go_round
          case rel => exact ⟨k + 2, by have := HK.out; omega, by omega, by go_num, by rw [← E.out]⟩
          case measure => simp [intOf]; omega
        · have E : Hid (s + 256 * x = fo (tot 0 (zs.take (k + 2)))) := Lib.hid (by rw [e1]; exact fo_same _ (by omega) (by omega))
          clear e0 e1 ht hx hs
          go_wp2
          go_round
          case rel => exact ⟨k + 2, by have := HK.out; omega, by omega, by go_num, by rw [← E.out]⟩
          case measure => simp [intOf]; omega
    · have HS : Hid (s = fo (tot 0 zs)) := Lib.hid (by rw [hs, List.take_of_length_le (by rw [HN.out]; omega)])
      clear hs
      go_wp2
      go_ret
      exact ⟨by rw [← HS.out]; rfl, rfl⟩

end Go.Proofs.Ytgmpablmkpamaaa
