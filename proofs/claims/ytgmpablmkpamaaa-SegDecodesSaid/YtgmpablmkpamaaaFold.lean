/-
  Contracts of inet.Fold and inet.Sum over this seat's translation.
-/
import Derived.Test.YtgmpablmkpamaaaChecked
import Derived.Test.YtgmpablmkpamaaaInetMath
import Derived.WalkKit
import Derived.Handy
import Derived.Lib.Hide
import Derived.Outline
import Derived.Laws.BitsLemmas
import Derived.Below
namespace Go.Proofs.Ytgmpablmkpamaaa
open Go.RowKit
set_option linter.unusedVariables false

theorem wraps_i64 (n : Int) (h₀ : 0 ≤ n) (h₁ : n < 2 ^ 63) : IntKind.i64.wrap n = n := by rw [IntKind.wrap_i64]; omega
theorem and16 (n : Int) (h0 : 0 ≤ n) (h1 : n ≤ 4611686018427387904) : bits .and .i64 n 65535 = n % 65536 :=
  bits_mask .i64 63 (by decide) wraps_i64 16 (by decide) n h0 (by omega)
theorem and8 (n : Int) (h0 : 0 ≤ n) (h1 : n ≤ 4611686018427387904) : bits .and .i64 n 255 = n % 256 :=
  bits_mask .i64 63 (by decide) wraps_i64 8 (by decide) n h0 (by omega)
theorem or8 (x y : Int) (h0 : 0 ≤ x) (h1 : x ≤ 65535) (h2 : 0 ≤ y) (h3 : y ≤ 255) : bits .or .i64 (x * 256) y = x * 256 + y :=
  bits_join .i64 63 (by decide) wraps_i64 8 (x * 256) y (by omega) (by omega) (by omega) h2 (by omega) (by omega)

theorem narrow_any (n : Int) (w : World) (h0 : 0 ≤ n) (h1 : n ≤ 4611686018427387904) :
    Calls Try.prog 36 #[.int .i64 n] w fun e w' => e = .returned (.int .i64 (fo n)) ∧ w = w' := by
  go_enter Try.func36, Try.ntmps36
  go_wp2
  go_loop [0] (fun v => ∃ m : Int, 0 ≤ m ∧ m ≤ 4611686018427387904 ∧ fo m = fo n ∧ v = .int .i64 m) (fun v => (intOf v).toNat)
  case atStart => exact ⟨n, h0, h1, rfl, rfl⟩
  case round =>
    obtain ⟨m, hm0, hm1, hf, rfl⟩ := hrel
    have HF := Lib.hid hf
    clear hf
    by_cases hlt : 65535 < m
    · have ha := and16 m hm0 hm1
      go_wp2
      go_round
      case rel => exact ⟨m % 65536 + m / 65536, by omega, by omega, by rw [← HF.out]; exact fo_narrow m hlt, rfl⟩
      case measure => simp [intOf]; omega
    · have HS : Hid (fo n = m) := Lib.hid (by rw [← HF.out, fo_small m hm0 (by omega)])
      go_wp2
      go_ret
      exact ⟨by rw [HS.out]; rfl, rfl⟩

/-- The slice value '.slice A n c' holds the bytes zs (n of them), below the world's end. -/
def Bs (w : World) (A : Option Addr) (zs : List Int) : Prop :=
  (∀ z ∈ zs, 0 ≤ z ∧ z ≤ 255) ∧ (zs = [] ∨ ∃ b o, A = some ⟨b, o, none⟩ ∧ b < w.heap.size ∧ ∀ j, j < zs.length → w.cell? ⟨b, o + j, none⟩ = some (.int .u8 (zs.getD j 0)))

theorem Bs.at {w : World} {A : Option Addr} {zs : List Int} (h : Bs w A zs) (k : Nat) (hk : k < zs.length) :
    ∃ b o x, A = some ⟨b, o, none⟩ ∧ w.cell? ⟨b, o + k, none⟩ = some (.int .u8 x) ∧ 0 ≤ x ∧ x ≤ 255 ∧ x = zs.getD k 0 := by
  obtain ⟨hz, h | ⟨b, o, rfl, hb, hc⟩⟩ := h
  · subst h; simp at hk
  · exact ⟨b, o, zs.getD k 0, rfl, hc k hk, (getD_bd zs hz k).1, (getD_bd zs hz k).2, rfl⟩

theorem fold_any (A : Option Addr) (n c : Nat) (zs : List Int) (w : World) (hb : Bs w A zs) (hn : zs.length = n) (h47 : n ≤ 140737488355328) :
    Calls Try.prog 19 #[.slice A n c] w fun e w' => e = .returned (.int .i64 (fo (tot 0 zs))) ∧ w = w' := by
  have HB := Lib.hid hb
  have HN := Lib.hid hn
  clear hb hn
  go_enter Try.func19, Try.ntmps19
  go_wp2
  go_loop [3, 8] (fun s i => ∃ k : Nat, k ≤ n ∧ i = .int .i64 k ∧ s = .int .i64 (tot 0 (zs.take k))) (fun _ i => n - (intOf i).toNat)
  case atStart => exact ⟨0, Nat.zero_le _, rfl, rfl⟩
  case round =>
    obtain ⟨k, hk, rfl, rfl⟩ := hrel
    have hbd := tot_take_bd zs HB.out.1 k (by rw [HN.out]; exact hk)
    obtain ⟨s, hs⟩ : ∃ s, s = tot 0 (zs.take k) := ⟨_, rfl⟩
    rw [← hs] at hbd ⊢
    obtain ⟨s0, s1⟩ := hbd
    by_cases hlt : k < n
    · obtain ⟨b, o, x, rfl, hc, x0, x1, hx⟩ := HB.out.at k (by rw [HN.out]; exact hlt)
      have ht := Lib.hid (tot_take zs k (by rw [HN.out]; exact hlt))
      have HX := Lib.hid hx
      have HS := Lib.hid hs
      clear hx hs
      by_cases hp : k % 2 = 0
      · have z : ((k : Int) % 2 == 0) = true := by rw [beq_iff_eq]; omega
        have HP := Lib.hid hp
        clear hp
        go_wp2
        go_round
        case rel => exact ⟨k + 1, by omega, by go_num, by rw [ht.out, if_pos HP.out, HS.out, ← HX.out]; go_num⟩
        case measure => simp [intOf]; omega
      · have z : ((k : Int) % 2 == 0) = false := by rw [beq_eq_false_iff_ne]; omega
        have HP := Lib.hid hp
        clear hp
        go_wp2
        go_round
        case rel => exact ⟨k + 1, by omega, by go_num, by rw [ht.out, if_neg HP.out, HS.out, ← HX.out]⟩
        case measure => simp [intOf]; omega
    · have HS : Hid (s = tot 0 zs) := Lib.hid (by rw [hs, List.take_of_length_le (by rw [HN.out]; omega)])
      clear hs
      go_wp2_with (go_at_call 36; refine (narrow_any _ _ (by omega) (by omega)).mono ?_; rintro e w' ⟨rfl, rfl⟩)
      go_ret
      exact ⟨by rw [← HS.out]; rfl, rfl⟩

theorem sum_any (A : Option Addr) (n c : Nat) (zs : List Int) (w : World) (hb : Bs w A zs) (hn : zs.length = n) (h47 : n ≤ 140737488355328) :
    Calls Try.prog 25 #[.slice A n c] w fun e w' => e = .returned (.int .i64 (65535 - fo (tot 0 zs))) ∧ w = w' := by
  have hf := fo_bd (tot 0 zs) (tot_bd0 zs hb.1).1
  have HB := Lib.hid hb
  have HN := Lib.hid hn
  clear hb hn
  go_enter Try.func25, Try.ntmps25
  go_wp2_with (go_at_call 19; refine (fold_any _ _ _ _ _ HB.out HN.out h47).mono ?_; rintro e w' ⟨rfl, rfl⟩)
  go_ret
  exact ⟨rfl, rfl⟩

end Go.Proofs.Ytgmpablmkpamaaa
