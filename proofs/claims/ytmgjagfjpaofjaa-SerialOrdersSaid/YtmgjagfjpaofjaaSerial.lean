/-
  Contracts of package serial's inner functions (wrap, serials), and of packthreadkeep.Picked, over this seat's translation.
-/
import Derived.Test.YtmgjagfjpaofjaaChecked
import Derived.WalkKit
import Derived.Handy
import Derived.Lib.Hide
namespace Go.Proofs.Ytmgjagfjpaofjaa
open Go.RowKit
set_option linter.unusedVariables false

theorem tmod_neg_lo (n : Int) (h : n < 0) : -65536 < n.tmod 65536 ∧ n.tmod 65536 ≤ 0 ∧ (n.tmod 65536 < 0 → n.tmod 65536 + 65536 = n % 65536) ∧ (n.tmod 65536 = 0 → n % 65536 = 0) := by
  have e : n.tmod 65536 = -((-n) % 65536) := by
    have e1 : n.tmod 65536 = -((-n).tmod 65536) := by rw [← Int.neg_tmod, Int.neg_neg]
    rw [e1, Int.tmod_eq_emod_of_nonneg (by omega)]
  rw [e]; omega

theorem wrap_any (n : Int) (w : World) (h1 : -4611686018427387904 ≤ n) (h2 : n ≤ 4611686018427387904) :
    Calls Try.prog 26 #[.int .i64 n] w fun e w' => e = .returned (.int .i64 (n % 65536)) ∧ w = w' := by
  by_cases h : 0 ≤ n
  · have h3 : 0 ≤ n % 65536 := by omega
    have h4 : n % 65536 < 65536 := by omega
    go_enter Try.func26, Try.ntmps26
    go_wp2
    go_ret
    exact ⟨rfl, rfl⟩
  · obtain ⟨g1, g2, g3, g4⟩ := tmod_neg_lo n (by omega)
    by_cases g : n.tmod 65536 < 0
    · have g5 := Lib.hid (g3 g)
      clear g3 g4
      go_enter Try.func26, Try.ntmps26
      go_wp2
      go_ret
      exact ⟨by rw [g5.out]; rfl, rfl⟩
    · have g5 := Lib.hid (g4 (by omega))
      have g6 : Hid (n.tmod 65536 = 0) := Lib.hid (by omega)
      clear g3 g4
      go_enter Try.func26, Try.ntmps26
      go_wp2
      go_ret
      exact ⟨by rw [g5.out, g6.out]; rfl, rfl⟩

theorem serials1_ok (a : Int) (b : Nat) (w : World) (h0 : 0 ≤ a) (h1 : a < 65536) (hc : w.cell? ⟨b, 0, none⟩ = some (.int .i64 a)) :
    Calls Try.prog 25 #[.slice (some ⟨b, 0, none⟩) 1 1] w fun e w' => e = .returned (.bool true) ∧ w = w' := by
  go_enter Try.func25, Try.ntmps25
  go_wp2
  go_rounds 2
  all_goals go_ret
  all_goals exact ⟨rfl, rfl⟩

theorem serials1_no (a : Int) (b : Nat) (w : World) (h : a < 0 ∨ 65536 ≤ a) (hc : w.cell? ⟨b, 0, none⟩ = some (.int .i64 a)) :
    Calls Try.prog 25 #[.slice (some ⟨b, 0, none⟩) 1 1] w fun e w' => e = .returned (.bool false) ∧ w = w' := by
  rcases h with h | h
  all_goals
    go_enter Try.func25, Try.ntmps25
    go_wp2
    go_rounds 2
    all_goals go_ret
    all_goals exact ⟨rfl, rfl⟩

theorem serials2_ok (a c : Int) (b : Nat) (w : World) (h0 : 0 ≤ a) (h1 : a < 65536) (h2 : 0 ≤ c) (h3 : c < 65536) (hc : w.cell? ⟨b, 0, none⟩ = some (.int .i64 a)) (hd : w.cell? ⟨b, 1, none⟩ = some (.int .i64 c)) :
    Calls Try.prog 25 #[.slice (some ⟨b, 0, none⟩) 2 2] w fun e w' => e = .returned (.bool true) ∧ w = w' := by
  go_enter Try.func25, Try.ntmps25
  go_wp2
  go_rounds 3
  all_goals go_ret
  all_goals exact ⟨rfl, rfl⟩

theorem serials2_no (a c : Int) (b : Nat) (w : World) (h : a < 0 ∨ 65536 ≤ a ∨ c < 0 ∨ 65536 ≤ c) (hc : w.cell? ⟨b, 0, none⟩ = some (.int .i64 a)) (hd : w.cell? ⟨b, 1, none⟩ = some (.int .i64 c)) :
    Calls Try.prog 25 #[.slice (some ⟨b, 0, none⟩) 2 2] w fun e w' => e = .returned (.bool false) ∧ w = w' := by
  by_cases h0 : 0 ≤ a
  · by_cases h1 : a < 65536
    · have h2 : c < 0 ∨ 65536 ≤ c := by omega
      clear h
      rcases h2 with h2 | h2
      all_goals
        go_enter Try.func25, Try.ntmps25
        go_wp2
        go_rounds 3
        all_goals go_ret
        all_goals exact ⟨rfl, rfl⟩
    · clear h
      go_enter Try.func25, Try.ntmps25
      go_wp2
      go_rounds 3
      all_goals go_ret
      all_goals exact ⟨rfl, rfl⟩
  · clear h
    go_enter Try.func25, Try.ntmps25
    go_wp2
    go_rounds 3
    all_goals go_ret
    all_goals exact ⟨rfl, rfl⟩

theorem Grown.trans {a b c : World} (h : Grown a b) (k : Grown b c) : Grown a c :=
  ⟨World.keptBut_trans h.1 (World.keptBut_mono (fun _ f => f.elim) k.1), fun x => (k.2.1 x).trans (h.2.1 x), Nat.le_trans h.2.2 k.2.2⟩

theorem picked_any (a n : Int) (w : World) (h1 : -9223372036854775808 ≤ a) (h2 : a ≤ 9223372036854775807) (h3 : 0 < n) (h4 : n ≤ 1048577) :
    Calls Try.prog 23 #[.int .i64 a, .int .i64 n] w fun e w' => e = .returned (.int .i64 (a % n)) ∧ w = w' := by
  have hm0 : 0 ≤ a % n := Int.emod_nonneg _ (by omega)
  have hm1 : a % n < n := Int.emod_lt_of_pos _ h3
  by_cases h : 0 ≤ a
  · go_enter Try.func23, Try.ntmps23
    go_wp2
    go_ret
    exact ⟨rfl, rfl⟩
  · have e1 : a.tmod n = -((-a).tmod n) := by rw [← Int.neg_tmod, Int.neg_neg]
    rw [Int.tmod_eq_emod_of_nonneg (a := -a) (b := n) (by omega)] at e1
    have k0 : 0 ≤ (-a) % n := Int.emod_nonneg _ (by omega)
    have k1 : (-a) % n < n := Int.emod_lt_of_pos _ h3
    have k2 : (-a) % n = 0 → a % n = 0 := by
      intro k; exact Int.emod_eq_zero_of_dvd (Int.dvd_neg.mp (Int.dvd_of_emod_eq_zero k))
    have k3 : 0 < (-a) % n → a % n = n - (-a) % n := by
      intro k
      have e2 : a = -((-a) % n) + n * (-((-a) / n)) := by
        have := Int.emod_add_mul_ediv (-a) n
        rw [Int.mul_neg]; omega
      have e3 : a % n = (n - (-a) % n) % n := by
        rw [e2, Int.add_mul_emod_self_left, ← e2, Int.sub_eq_add_neg, Int.add_comm n, Int.add_emod_right]
      rw [e3, Int.emod_eq_of_lt (by omega) (by omega)]
    have g1 : -n < a.tmod n := by omega
    have g2 : a.tmod n ≤ 0 := by omega
    by_cases g : a.tmod n < 0
    · have g5 : Hid (a.tmod n + n = a % n) := Lib.hid (by omega)
      clear k0 k1 k2 k3 e1
      go_enter Try.func23, Try.ntmps23
      go_wp2
      go_ret
      exact ⟨by rw [g5.out]; rfl, rfl⟩
    · have g5 : Hid (a.tmod n = a % n) := Lib.hid (by omega)
      clear k0 k1 k2 k3 e1
      go_enter Try.func23, Try.ntmps23
      go_wp2
      go_ret
      exact ⟨by rw [← g5.out]; rfl, rfl⟩

/-! The two of them as a caller meets them: the arguments' list has just been laid. -/
theorem serials1_at (a : Int) (b : Nat) (w : World) (hb : b = w.heap.size) (h0 : 0 ≤ a) (h1 : a < 65536) :
    Calls Try.prog 25 #[.slice (some ⟨b, 0, none⟩) 1 1] (w.alloc (.cells #[.int .i64 a] 3)) fun e w' => e = .returned (.bool true) ∧ w.alloc (.cells #[.int .i64 a] 3) = w' := by
  subst hb; exact serials1_ok a _ _ h0 h1 (by go_cell)
theorem serials1_at_no (a : Int) (b : Nat) (w : World) (hb : b = w.heap.size) (h : a < 0 ∨ 65536 ≤ a) :
    Calls Try.prog 25 #[.slice (some ⟨b, 0, none⟩) 1 1] (w.alloc (.cells #[.int .i64 a] 3)) fun e w' => e = .returned (.bool false) ∧ w.alloc (.cells #[.int .i64 a] 3) = w' := by
  subst hb; exact serials1_no a _ _ h (by go_cell)
theorem serials2_at (a c : Int) (b : Nat) (w : World) (hb : b = w.heap.size) (h0 : 0 ≤ a) (h1 : a < 65536) (h2 : 0 ≤ c) (h3 : c < 65536) :
    Calls Try.prog 25 #[.slice (some ⟨b, 0, none⟩) 2 2] (w.alloc (.cells #[.int .i64 a, .int .i64 c] 3)) fun e w' => e = .returned (.bool true) ∧ w.alloc (.cells #[.int .i64 a, .int .i64 c] 3) = w' := by
  subst hb; exact serials2_ok a c _ _ h0 h1 h2 h3 (by go_cell) (by go_cell)
theorem serials2_at_no (a c : Int) (b : Nat) (w : World) (hb : b = w.heap.size) (h : a < 0 ∨ 65536 ≤ a ∨ c < 0 ∨ 65536 ≤ c) :
    Calls Try.prog 25 #[.slice (some ⟨b, 0, none⟩) 2 2] (w.alloc (.cells #[.int .i64 a, .int .i64 c] 3)) fun e w' => e = .returned (.bool false) ∧ w.alloc (.cells #[.int .i64 a, .int .i64 c] 3) = w' := by
  subst hb; exact serials2_no a c _ _ h (by go_cell) (by go_cell)

end Go.Proofs.Ytmgjagfjpaofjaa
