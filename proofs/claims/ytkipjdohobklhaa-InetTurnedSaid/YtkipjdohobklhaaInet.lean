/-
  Contracts of package inet's inner functions over this seat's translation.
-/
import Derived.Test.YtkipjdohobklhaaChecked
import Derived.Test.YtkipjdohobklhaaInetMath
import Derived.WalkKit
import Derived.Handy
import Derived.Lib.Hide
import Derived.Outline
import Derived.Laws.BitsLemmas
import Derived.Below
namespace Go.Proofs.Ytkipjdohobklhaa
open Go.RowKit
set_option linter.unusedVariables false

theorem wraps_i64 (n : Int) (h₀ : 0 ≤ n) (h₁ : n < 2 ^ 63) : IntKind.i64.wrap n = n := by rw [IntKind.wrap_i64]; omega
theorem and16 (n : Int) (h0 : 0 ≤ n) (h1 : n ≤ 4611686018427387904) : bits .and .i64 n 65535 = n % 65536 :=
  bits_mask .i64 63 (by decide) wraps_i64 16 (by decide) n h0 (by omega)
theorem and8 (n : Int) (h0 : 0 ≤ n) (h1 : n ≤ 4611686018427387904) : bits .and .i64 n 255 = n % 256 :=
  bits_mask .i64 63 (by decide) wraps_i64 8 (by decide) n h0 (by omega)
theorem or8 (x y : Int) (h0 : 0 ≤ x) (h1 : x ≤ 65535) (h2 : 0 ≤ y) (h3 : y ≤ 255) : bits .or .i64 (x * 256) y = x * 256 + y :=
  bits_join .i64 63 (by decide) wraps_i64 8 (x * 256) y (by omega) (by omega) (by omega) h2 (by omega) (by omega)

theorem narrow_any (n : Int) (w : World) (h0 : 0 ≤ n) (h1 : n ≤ 4611686018427387904) :
    Calls Try.prog 22 #[.int .i64 n] w fun e w' => e = .returned (.int .i64 (fo n)) ∧ w = w' := by
  go_enter Try.func22, Try.ntmps22
  go_wp2
  go_loop [0] (fun v => ∃ m : Int, 0 ≤ m ∧ m ≤ 4611686018427387904 ∧ fo m = fo n ∧ v = .int .i64 m) (fun v => (intOf v).toNat)
  case atStart => exact ⟨n, h0, h1, rfl, rfl⟩
  case round =>
    obtain ⟨m, hm0, hm1, hf, rfl⟩ := hrel
    have HF := Lib.hid hf
    clear hf
    by_cases hlt : 65535 < m
    · have ha := and16 m hm0 hm1
      go_wp2
      go_round
      case rel => exact ⟨m % 65536 + m / 65536, by omega, by omega, by rw [← HF.out]; exact fo_narrow m hlt, rfl⟩
      case measure => simp [intOf]; omega
    · have HS : Hid (fo n = m) := Lib.hid (by rw [← HF.out, fo_small m hm0 (by omega)])
      go_wp2
      go_ret
      exact ⟨by rw [HS.out]; rfl, rfl⟩

theorem swap_any (n : Int) (w : World) (h0 : 0 ≤ n) (h1 : n ≤ 65535) :
    Calls Try.prog 24 #[.int .i64 n] w fun e w' => e = .returned (.int .i64 (n % 256 * 256 + n / 256)) ∧ w = w' := by
  have ha := and8 n h0 (by omega)
  have ho := or8 (n % 256) (n / 256) (by omega) (by omega) (by omega) (by omega)
  go_enter Try.func24, Try.ntmps24
  go_wp2
  go_ret
  exact ⟨by simp, rfl⟩

/-- The slice value '.slice A n c' holds the bytes zs (n of them), below the world's end. -/
def Bs (w : World) (A : Option Addr) (zs : List Int) : Prop :=
  (∀ z ∈ zs, 0 ≤ z ∧ z ≤ 255) ∧ (zs = [] ∨ ∃ b o, A = some ⟨b, o, none⟩ ∧ b < w.heap.size ∧ ∀ j, j < zs.length → w.cell? ⟨b, o + j, none⟩ = some (.int .u8 (zs.getD j 0)))

theorem Bs.at {w : World} {A : Option Addr} {zs : List Int} (h : Bs w A zs) (k : Nat) (hk : k < zs.length) :
    ∃ b o x, A = some ⟨b, o, none⟩ ∧ w.cell? ⟨b, o + k, none⟩ = some (.int .u8 x) ∧ 0 ≤ x ∧ x ≤ 255 ∧ x = zs.getD k 0 := by
  obtain ⟨hz, h | ⟨b, o, rfl, hb, hc⟩⟩ := h
  · subst h; simp at hk
  · exact ⟨b, o, zs.getD k 0, rfl, hc k hk, (getD_bd zs hz k).1, (getD_bd zs hz k).2, rfl⟩

theorem fold_any (A : Option Addr) (n c : Nat) (zs : List Int) (w : World) (hb : Bs w A zs) (hn : zs.length = n) (h47 : n ≤ 140737488355328) :
    Calls Try.prog 12 #[.slice A n c] w fun e w' => e = .returned (.int .i64 (fo (tot 0 zs))) ∧ w = w' := by
  have HB := Lib.hid hb
  have HN := Lib.hid hn
  clear hb hn
  go_enter Try.func12, Try.ntmps12
  go_wp2
  go_loop [3, 8] (fun s i => ∃ k : Nat, k ≤ n ∧ i = .int .i64 k ∧ s = .int .i64 (tot 0 (zs.take k))) (fun _ i => n - (intOf i).toNat)
  case atStart => exact ⟨0, Nat.zero_le _, rfl, rfl⟩
  case round =>
    obtain ⟨k, hk, rfl, rfl⟩ := hrel
    have hbd := tot_take_bd zs HB.out.1 k (by rw [HN.out]; exact hk)
    obtain ⟨s, hs⟩ : ∃ s, s = tot 0 (zs.take k) := ⟨_, rfl⟩
    rw [← hs] at hbd ⊢
    obtain ⟨s0, s1⟩ := hbd
    by_cases hlt : k < n
    · obtain ⟨b, o, x, rfl, hc, x0, x1, hx⟩ := HB.out.at k (by rw [HN.out]; exact hlt)
      have ht := Lib.hid (tot_take zs k (by rw [HN.out]; exact hlt))
      have HX := Lib.hid hx
      have HS := Lib.hid hs
      clear hx hs
      by_cases hp : k % 2 = 0
      · have z : ((k : Int) % 2 == 0) = true := by rw [beq_iff_eq]; omega
        have HP := Lib.hid hp
        clear hp
        go_wp2
        go_round
        case rel => exact ⟨k + 1, by omega, by go_num, by rw [ht.out, if_pos HP.out, HS.out, ← HX.out]; go_num⟩
        case measure => simp [intOf]; omega
      · have z : ((k : Int) % 2 == 0) = false := by rw [beq_eq_false_iff_ne]; omega
        have HP := Lib.hid hp
        clear hp
        go_wp2
        go_round
        case rel => exact ⟨k + 1, by omega, by go_num, by rw [ht.out, if_neg HP.out, HS.out, ← HX.out]⟩
        case measure => simp [intOf]; omega
    · have HS : Hid (s = tot 0 zs) := Lib.hid (by rw [hs, List.take_of_length_le (by rw [HN.out]; omega)])
      clear hs
      go_wp2_with (go_at_call 22; refine (narrow_any _ _ (by omega) (by omega)).mono ?_; rintro e w' ⟨rfl, rfl⟩)
      go_ret
      exact ⟨by rw [← HS.out]; rfl, rfl⟩

theorem sum_any (A : Option Addr) (n c : Nat) (zs : List Int) (w : World) (hb : Bs w A zs) (hn : zs.length = n) (h47 : n ≤ 140737488355328) :
    Calls Try.prog 14 #[.slice A n c] w fun e w' => e = .returned (.int .i64 (65535 - fo (tot 0 zs))) ∧ w = w' := by
  have hf := fo_bd (tot 0 zs) (tot_bd0 zs hb.1).1
  have HB := Lib.hid hb
  have HN := Lib.hid hn
  clear hb hn
  go_enter Try.func14, Try.ntmps14
  go_wp2_with (go_at_call 12; refine (fold_any _ _ _ _ _ HB.out HN.out h47).mono ?_; rintro e w' ⟨rfl, rfl⟩)
  go_ret
  exact ⟨rfl, rfl⟩

theorem pairs2_ok (a c : Int) (b : Nat) (w : World) (hb : b = w.heap.size) (h0 : 0 ≤ a) (h1 : a ≤ 65535) (h2 : 0 ≤ c) (h3 : c ≤ 65535) :
    Calls Try.prog 23 #[.slice (some ⟨b, 0, none⟩) 2 2] (w.alloc (.cells #[.int .i64 a, .int .i64 c] 3)) fun e w' => e = .returned (.bool true) ∧ w.alloc (.cells #[.int .i64 a, .int .i64 c] 3) = w' := by
  subst hb
  go_enter Try.func23, Try.ntmps23
  go_wp2
  go_rounds 3
  all_goals go_ret
  all_goals exact ⟨rfl, rfl⟩

theorem pairs2_no (a c : Int) (b : Nat) (w : World) (hb : b = w.heap.size) (h : a < 0 ∨ 65535 < a ∨ c < 0 ∨ 65535 < c) :
    Calls Try.prog 23 #[.slice (some ⟨b, 0, none⟩) 2 2] (w.alloc (.cells #[.int .i64 a, .int .i64 c] 3)) fun e w' => e = .returned (.bool false) ∧ w.alloc (.cells #[.int .i64 a, .int .i64 c] 3) = w' := by
  subst hb
  have h' : (a < 0 ∨ 65535 < a) ∨ (0 ≤ a ∧ a ≤ 65535) ∧ (c < 0 ∨ 65535 < c) := by omega
  clear h
  rcases h' with (h | h) | ⟨⟨g0, g1⟩, h | h⟩
  all_goals
    go_enter Try.func23, Try.ntmps23
    go_wp2
    go_rounds 3
    all_goals go_ret
    all_goals exact ⟨rfl, rfl⟩

theorem pairs3_ok (a c d : Int) (b : Nat) (w : World) (hb : b = w.heap.size) (h0 : 0 ≤ a) (h1 : a ≤ 65535) (h2 : 0 ≤ c) (h3 : c ≤ 65535) (h4 : 0 ≤ d) (h5 : d ≤ 65535) :
    Calls Try.prog 23 #[.slice (some ⟨b, 0, none⟩) 3 3] (w.alloc (.cells #[.int .i64 a, .int .i64 c, .int .i64 d] 3)) fun e w' => e = .returned (.bool true) ∧ w.alloc (.cells #[.int .i64 a, .int .i64 c, .int .i64 d] 3) = w' := by
  subst hb
  go_enter Try.func23, Try.ntmps23
  go_wp2
  go_rounds 4
  all_goals go_ret
  all_goals exact ⟨rfl, rfl⟩

theorem pairs3_no (a c d : Int) (b : Nat) (w : World) (hb : b = w.heap.size) (h : a < 0 ∨ 65535 < a ∨ c < 0 ∨ 65535 < c ∨ d < 0 ∨ 65535 < d) :
    Calls Try.prog 23 #[.slice (some ⟨b, 0, none⟩) 3 3] (w.alloc (.cells #[.int .i64 a, .int .i64 c, .int .i64 d] 3)) fun e w' => e = .returned (.bool false) ∧ w.alloc (.cells #[.int .i64 a, .int .i64 c, .int .i64 d] 3) = w' := by
  subst hb
  have h' : (a < 0 ∨ 65535 < a) ∨ (0 ≤ a ∧ a ≤ 65535) ∧ ((c < 0 ∨ 65535 < c) ∨ (0 ≤ c ∧ c ≤ 65535) ∧ (d < 0 ∨ 65535 < d)) := by omega
  clear h
  rcases h' with (h | h) | ⟨⟨g0, g1⟩, (h | h) | ⟨⟨g2, g3⟩, h | h⟩⟩
  all_goals
    go_enter Try.func23, Try.ntmps23
    go_wp2
    go_rounds 4
    all_goals go_ret
    all_goals exact ⟨rfl, rfl⟩

/-- what Join answers: b's halves change places where the first bytes are odd -/
def joined (a b : Int) (odd : Bool) : Int := fo (a + (if odd = true then b % 256 * 256 + b / 256 else b))
/-- what Update answers -/
def mended (sum was is : Int) : Int := 65535 - fo (65535 - sum + 65535 - was + is)

theorem join_ok (a b : Int) (odd : Bool) (w : World) (h0 : 0 ≤ a) (h1 : a ≤ 65535) (h2 : 0 ≤ b) (h3 : b ≤ 65535) :
    Calls Try.prog 15 #[.int .i64 a, .int .i64 b, .bool odd] w fun e w' => e = .returned (.tuple #[.int .i64 (joined a b odd), .int .i64 0]) ∧ Below w.heap.size w w' := by
  cases odd
  · have e : Hid (joined a b false = fo (a + b)) := Lib.hid (by simp [joined])
    go_enter Try.func15, Try.ntmps15
    go_wp2_with (first | (go_at_call 23; refine (pairs2_ok _ _ _ _ (by first | rfl | simp) (by omega) (by omega) (by omega) (by omega)).mono ?_; rintro e w' ⟨rfl, rfl⟩) | (go_at_call 22; refine (narrow_any _ _ (by omega) (by omega)).mono ?_; rintro e w' ⟨rfl, rfl⟩))
    go_ret2
    exact ⟨by rw [e.out]; rfl, (Below.refl _ _).alloc (Nat.le_refl _) _⟩
  · have e : Hid (joined a b true = fo (a + (b % 256 * 256 + b / 256))) := Lib.hid (by simp [joined])
    go_enter Try.func15, Try.ntmps15
    go_wp2_with (first | (go_at_call 23; refine (pairs2_ok _ _ _ _ (by first | rfl | simp) (by omega) (by omega) (by omega) (by omega)).mono ?_; rintro e w' ⟨rfl, rfl⟩) | (go_at_call 24; refine (swap_any _ _ (by omega) (by omega)).mono ?_; rintro e w' ⟨rfl, rfl⟩) | (go_at_call 22; refine (narrow_any _ _ (by omega) (by omega)).mono ?_; rintro e w' ⟨rfl, rfl⟩))
    go_ret2
    exact ⟨by rw [e.out]; rfl, (Below.refl _ _).alloc (Nat.le_refl _) _⟩

theorem join_no (a b : Int) (odd : Bool) (w : World) (h : a < 0 ∨ 65535 < a ∨ b < 0 ∨ 65535 < b) :
    Calls Try.prog 15 #[.int .i64 a, .int .i64 b, .bool odd] w fun e w' => e = .returned (.tuple #[.int .i64 0, .int .i64 2]) ∧ Below w.heap.size w w' := by
  go_enter Try.func15, Try.ntmps15
  go_wp2_with (go_at_call 23; refine (pairs2_no _ _ _ _ (by first | rfl | simp) (by omega)).mono ?_; rintro e w' ⟨rfl, rfl⟩)
  go_ret2
  exact ⟨rfl, (Below.refl _ _).alloc (Nat.le_refl _) _⟩

theorem update_ok (sum was is : Int) (w : World) (h0 : 0 ≤ sum) (h1 : sum ≤ 65535) (h2 : 0 ≤ was) (h3 : was ≤ 65535) (h4 : 0 ≤ is) (h5 : is ≤ 65535) :
    Calls Try.prog 17 #[.int .i64 sum, .int .i64 was, .int .i64 is] w fun e w' => e = .returned (.tuple #[.int .i64 (mended sum was is), .int .i64 0]) ∧ Below w.heap.size w w' := by
  have e : Hid (mended sum was is = 65535 - fo (65535 - sum + 65535 - was + is)) := Lib.hid rfl
  have hf := fo_bd (65535 - sum + 65535 - was + is) (by omega)
  go_enter Try.func17, Try.ntmps17
  go_wp2_with (first | (go_at_call 23; refine (pairs3_ok _ _ _ _ _ (by first | rfl | simp) (by omega) (by omega) (by omega) (by omega) (by omega) (by omega)).mono ?_; rintro e w' ⟨rfl, rfl⟩) | (go_at_call 22; refine (narrow_any _ _ (by omega) (by omega)).mono ?_; rintro e w' ⟨rfl, rfl⟩))
  go_ret2
  exact ⟨by rw [e.out]; rfl, (Below.refl _ _).alloc (Nat.le_refl _) _⟩

theorem update_no (sum was is : Int) (w : World) (h : sum < 0 ∨ 65535 < sum ∨ was < 0 ∨ 65535 < was ∨ is < 0 ∨ 65535 < is) :
    Calls Try.prog 17 #[.int .i64 sum, .int .i64 was, .int .i64 is] w fun e w' => e = .returned (.tuple #[.int .i64 0, .int .i64 2]) ∧ Below w.heap.size w w' := by
  go_enter Try.func17, Try.ntmps17
  go_wp2_with (go_at_call 23; refine (pairs3_no _ _ _ _ _ (by first | rfl | simp) (by omega)).mono ?_; rintro e w' ⟨rfl, rfl⟩)
  go_ret2
  exact ⟨rfl, (Below.refl _ _).alloc (Nat.le_refl _) _⟩

end Go.Proofs.Ytkipjdohobklhaa
