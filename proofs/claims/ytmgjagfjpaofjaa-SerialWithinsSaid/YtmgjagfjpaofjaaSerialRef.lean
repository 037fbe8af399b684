/-
  Contracts of the document's answer for layer 1 (packthreadref.Serial..) over this seat's translation: in the same words as those of package serial.
-/
import Derived.Test.YtmgjagfjpaofjaaSerialFace
import Derived.WalkKit
import Derived.Handy
import Derived.Lib.Hide
namespace Go.Proofs.Ytmgjagfjpaofjaa
open Go.RowKit
set_option linter.unusedVariables false

theorem may_ok (s : Int) (w : World) (h0 : 0 ≤ s) (h1 : s < 65536) :
    Calls Try.prog 27 #[.int .i64 s] w fun e w' => e = .returned (.bool true) ∧ w = w' := by
  have z : decide (s ≤ 65535) = true := by simp; omega
  go_enter Try.func27, Try.ntmps27
  go_wp2
  go_ret
  exact ⟨rfl, rfl⟩
theorem may_no (s : Int) (w : World) (h : s < 0 ∨ 65536 ≤ s) :
    Calls Try.prog 27 #[.int .i64 s] w fun e w' => e = .returned (.bool false) ∧ w = w' := by
  rcases h with h | h
  · go_enter Try.func27, Try.ntmps27
    go_wp2
    go_ret
    exact ⟨rfl, rfl⟩
  · have z : decide (s ≤ 65535) = false := by simp; omega
    go_enter Try.func27, Try.ntmps27
    go_wp2
    go_ret
    exact ⟨rfl, rfl⟩

theorem refadd_ok (s n : Int) (w : World) (h0 : 0 ≤ s) (h1 : s < 65536) (h2 : 0 ≤ n) (h3 : n < 32768) :
    Calls Try.prog 14 #[.int .i64 s, .int .i64 n] w fun e w' => e = .returned (.tuple #[.int .i64 ((s + n) % 65536), .int .i64 0]) ∧ w = w' := by
  by_cases g : 65535 < s + n
  · have e : Hid ((s + n) % 65536 = s + n - 65536) := Lib.hid (by omega)
    rw [e.out]
    go_enter Try.func14, Try.ntmps14
    go_wp2_with (first | (go_at_call 27; refine (may_ok _ _ (by omega) (by omega)).mono ?_; rintro e w' ⟨rfl, rfl⟩) | (go_at_call 27; refine (may_no _ _ (by omega)).mono ?_; rintro e w' ⟨rfl, rfl⟩))
    go_ret2
    exact ⟨rfl, rfl⟩
  · have e : Hid ((s + n) % 65536 = s + n) := Lib.hid (by omega)
    rw [e.out]
    go_enter Try.func14, Try.ntmps14
    go_wp2_with (first | (go_at_call 27; refine (may_ok _ _ (by omega) (by omega)).mono ?_; rintro e w' ⟨rfl, rfl⟩) | (go_at_call 27; refine (may_no _ _ (by omega)).mono ?_; rintro e w' ⟨rfl, rfl⟩))
    go_ret2
    exact ⟨rfl, rfl⟩

theorem refadd_no (s n : Int) (w : World) (h : s < 0 ∨ 65536 ≤ s ∨ n < 0 ∨ 32768 ≤ n) :
    Calls Try.prog 14 #[.int .i64 s, .int .i64 n] w fun e w' => e = .returned (.tuple #[.int .i64 0, .int .i64 2]) ∧ w = w' := by
  by_cases k0 : s < 0
  · clear h
    go_enter Try.func14, Try.ntmps14
    go_wp2_with (first | (go_at_call 27; refine (may_ok _ _ (by omega) (by omega)).mono ?_; rintro e w' ⟨rfl, rfl⟩) | (go_at_call 27; refine (may_no _ _ (by omega)).mono ?_; rintro e w' ⟨rfl, rfl⟩))
    go_ret2
    exact ⟨rfl, rfl⟩
  by_cases k1 : 65536 ≤ s
  · clear h
    go_enter Try.func14, Try.ntmps14
    go_wp2_with (first | (go_at_call 27; refine (may_ok _ _ (by omega) (by omega)).mono ?_; rintro e w' ⟨rfl, rfl⟩) | (go_at_call 27; refine (may_no _ _ (by omega)).mono ?_; rintro e w' ⟨rfl, rfl⟩))
    go_ret2
    exact ⟨rfl, rfl⟩
  by_cases k2 : n < 0
  · clear h
    go_enter Try.func14, Try.ntmps14
    go_wp2_with (first | (go_at_call 27; refine (may_ok _ _ (by omega) (by omega)).mono ?_; rintro e w' ⟨rfl, rfl⟩) | (go_at_call 27; refine (may_no _ _ (by omega)).mono ?_; rintro e w' ⟨rfl, rfl⟩))
    go_ret2
    exact ⟨rfl, rfl⟩
  have k : 32768 ≤ n := by omega
  clear h
  go_enter Try.func14, Try.ntmps14
  go_wp2_with (first | (go_at_call 27; refine (may_ok _ _ (by omega) (by omega)).mono ?_; rintro e w' ⟨rfl, rfl⟩) | (go_at_call 27; refine (may_no _ _ (by omega)).mono ?_; rintro e w' ⟨rfl, rfl⟩))
  go_ret2
  exact ⟨rfl, rfl⟩

theorem reffar_ok (a b : Int) (w : World) (ha0 : 0 ≤ a) (ha1 : a < 65536) (hb0 : 0 ≤ b) (hb1 : b < 65536) :
    Calls Try.prog 16 #[.int .i64 a, .int .i64 b] w fun e w' => e = .returned (.tuple #[.int .i64 ((b - a) % 65536), .int .i64 0]) ∧ w = w' := by
  by_cases g : a ≤ b
  · have e : Hid ((b - a) % 65536 = b - a) := Lib.hid (by omega)
    rw [e.out]
    go_enter Try.func16, Try.ntmps16
    go_wp2_with (first | (go_at_call 27; refine (may_ok _ _ (by omega) (by omega)).mono ?_; rintro e w' ⟨rfl, rfl⟩) | (go_at_call 27; refine (may_no _ _ (by omega)).mono ?_; rintro e w' ⟨rfl, rfl⟩))
    go_ret2
    exact ⟨rfl, rfl⟩
  · have e : Hid ((b - a) % 65536 = 65536 - (a - b)) := Lib.hid (by omega)
    rw [e.out]
    go_enter Try.func16, Try.ntmps16
    go_wp2_with (first | (go_at_call 27; refine (may_ok _ _ (by omega) (by omega)).mono ?_; rintro e w' ⟨rfl, rfl⟩) | (go_at_call 27; refine (may_no _ _ (by omega)).mono ?_; rintro e w' ⟨rfl, rfl⟩))
    go_ret2
    exact ⟨rfl, rfl⟩

theorem reffar_no (a b : Int) (w : World) (h : a < 0 ∨ 65536 ≤ a ∨ b < 0 ∨ 65536 ≤ b) :
    Calls Try.prog 16 #[.int .i64 a, .int .i64 b] w fun e w' => e = .returned (.tuple #[.int .i64 0, .int .i64 2]) ∧ w = w' := by
  by_cases k0 : a < 0
  · clear h
    go_enter Try.func16, Try.ntmps16
    go_wp2_with (first | (go_at_call 27; refine (may_ok _ _ (by omega) (by omega)).mono ?_; rintro e w' ⟨rfl, rfl⟩) | (go_at_call 27; refine (may_no _ _ (by omega)).mono ?_; rintro e w' ⟨rfl, rfl⟩))
    go_ret2
    exact ⟨rfl, rfl⟩
  by_cases k1 : 65536 ≤ a
  · clear h
    go_enter Try.func16, Try.ntmps16
    go_wp2_with (first | (go_at_call 27; refine (may_ok _ _ (by omega) (by omega)).mono ?_; rintro e w' ⟨rfl, rfl⟩) | (go_at_call 27; refine (may_no _ _ (by omega)).mono ?_; rintro e w' ⟨rfl, rfl⟩))
    go_ret2
    exact ⟨rfl, rfl⟩
  by_cases k2 : b < 0
  · clear h
    go_enter Try.func16, Try.ntmps16
    go_wp2_with (first | (go_at_call 27; refine (may_ok _ _ (by omega) (by omega)).mono ?_; rintro e w' ⟨rfl, rfl⟩) | (go_at_call 27; refine (may_no _ _ (by omega)).mono ?_; rintro e w' ⟨rfl, rfl⟩))
    go_ret2
    exact ⟨rfl, rfl⟩
  have k : 65536 ≤ b := by omega
  clear h
  go_enter Try.func16, Try.ntmps16
  go_wp2_with (first | (go_at_call 27; refine (may_ok _ _ (by omega) (by omega)).mono ?_; rintro e w' ⟨rfl, rfl⟩) | (go_at_call 27; refine (may_no _ _ (by omega)).mono ?_; rintro e w' ⟨rfl, rfl⟩))
  go_ret2
  exact ⟨rfl, rfl⟩

theorem reforder_ok (a b : Int) (w : World) (ha0 : 0 ≤ a) (ha1 : a < 65536) (hb0 : 0 ≤ b) (hb1 : b < 65536) :
    Calls Try.prog 18 #[.int .i64 a, .int .i64 b] w fun e w' => e = .returned (.tuple #[.int .i64 (ord a b), .int .i64 0]) ∧ w = w' := by
  by_cases g0 : a = b
  · have e : ord a b = 0 := by unfold ord; rw [if_pos g0]
    rw [e]
    have z : (a == b) = true := by rw [beq_iff_eq]; exact g0
    clear e g0
    go_enter Try.func18, Try.ntmps18
    go_wp2_with (go_at_call 16; refine (reffar_ok _ _ _ (by omega) (by omega) (by omega) (by omega)).mono ?_; rintro e w' ⟨rfl, rfl⟩)
    go_ret2
    exact ⟨rfl, rfl⟩
  · have z : (a == b) = false := by rw [beq_eq_false_iff_ne]; exact g0
    by_cases g1 : (b - a) % 65536 < 32768
    · have e : ord a b = -1 := by unfold ord; rw [if_neg g0, if_pos g1]
      rw [e]
      have z1 : ((b - a) % 65536 == (a - b) % 65536) = false := by rw [beq_eq_false_iff_ne]; omega
      have z2 : (b - a) % 65536 < (a - b) % 65536 := by omega
      clear e g0 g1
      go_enter Try.func18, Try.ntmps18
      go_wp2_with (go_at_call 16; refine (reffar_ok _ _ _ (by omega) (by omega) (by omega) (by omega)).mono ?_; rintro e w' ⟨rfl, rfl⟩)
      go_ret2
      exact ⟨rfl, rfl⟩
    · by_cases g2 : (b - a) % 65536 = 32768
      · have e : ord a b = 2 := by unfold ord; rw [if_neg g0, if_neg g1, if_pos g2]
        rw [e]
        have z1 : ((b - a) % 65536 == (a - b) % 65536) = true := by rw [beq_iff_eq]; omega
        clear e g0 g1 g2
        go_enter Try.func18, Try.ntmps18
        go_wp2_with (go_at_call 16; refine (reffar_ok _ _ _ (by omega) (by omega) (by omega) (by omega)).mono ?_; rintro e w' ⟨rfl, rfl⟩)
        go_ret2
        exact ⟨rfl, rfl⟩
      · have e : ord a b = 1 := by unfold ord; rw [if_neg g0, if_neg g1, if_neg g2]
        rw [e]
        have z1 : ((b - a) % 65536 == (a - b) % 65536) = false := by rw [beq_eq_false_iff_ne]; omega
        have z2 : (a - b) % 65536 ≤ (b - a) % 65536 := by omega
        clear e g0 g1 g2
        go_enter Try.func18, Try.ntmps18
        go_wp2_with (go_at_call 16; refine (reffar_ok _ _ _ (by omega) (by omega) (by omega) (by omega)).mono ?_; rintro e w' ⟨rfl, rfl⟩)
        go_ret2
        exact ⟨rfl, rfl⟩

theorem reforder_no (a b : Int) (w : World) (h : a < 0 ∨ 65536 ≤ a ∨ b < 0 ∨ 65536 ≤ b) :
    Calls Try.prog 18 #[.int .i64 a, .int .i64 b] w fun e w' => e = .returned (.tuple #[.int .i64 0, .int .i64 2]) ∧ w = w' := by
  go_enter Try.func18, Try.ntmps18
  go_wp2_with (go_at_call 16; refine (reffar_no _ _ _ (by omega)).mono ?_; rintro e w' ⟨rfl, rfl⟩)
  go_ret2
  exact ⟨rfl, rfl⟩

theorem refwithin_ok (s low n : Int) (w : World) (hs0 : 0 ≤ s) (hs1 : s < 65536) (hlow0 : 0 ≤ low) (hlow1 : low < 65536) (h4 : 0 ≤ n) (h5 : n ≤ 65536) :
    Calls Try.prog 20 #[.int .i64 s, .int .i64 low, .int .i64 n] w fun e w' => e = .returned (.tuple #[.bool (decide ((s - low) % 65536 < n)), .int .i64 0]) ∧ w = w' := by
  by_cases g : (s - low) % 65536 < n
  · have e : decide ((s - low) % 65536 < n) = true := by simpa using g
    rw [e]
    clear e
    by_cases k : low ≤ s
    · have k1 : s < low + n := by omega
      clear g
      go_enter Try.func20, Try.ntmps20
      go_wp2_with (first | (go_at_call 27; refine (may_ok _ _ (by omega) (by omega)).mono ?_; rintro e w' ⟨rfl, rfl⟩) | (go_at_call 27; refine (may_no _ _ (by omega)).mono ?_; rintro e w' ⟨rfl, rfl⟩))
      go_ret2
      exact ⟨rfl, rfl⟩
    · have k1 : s + 65536 < low + n := by omega
      clear g
      go_enter Try.func20, Try.ntmps20
      go_wp2_with (first | (go_at_call 27; refine (may_ok _ _ (by omega) (by omega)).mono ?_; rintro e w' ⟨rfl, rfl⟩) | (go_at_call 27; refine (may_no _ _ (by omega)).mono ?_; rintro e w' ⟨rfl, rfl⟩))
      go_ret2
      exact ⟨rfl, rfl⟩
  · have e : decide ((s - low) % 65536 < n) = false := by simpa using g
    rw [e]
    clear e
    by_cases k : low ≤ s
    · have k1 : decide (s < low + n) = false := by simp; omega
      have k2 : decide (s + 65536 < low + n) = false := by simp; omega
      clear g
      go_enter Try.func20, Try.ntmps20
      go_wp2_with (first | (go_at_call 27; refine (may_ok _ _ (by omega) (by omega)).mono ?_; rintro e w' ⟨rfl, rfl⟩) | (go_at_call 27; refine (may_no _ _ (by omega)).mono ?_; rintro e w' ⟨rfl, rfl⟩))
      go_ret2
      exact ⟨rfl, rfl⟩
    · have k2 : decide (s + 65536 < low + n) = false := by simp; omega
      clear g
      go_enter Try.func20, Try.ntmps20
      go_wp2_with (first | (go_at_call 27; refine (may_ok _ _ (by omega) (by omega)).mono ?_; rintro e w' ⟨rfl, rfl⟩) | (go_at_call 27; refine (may_no _ _ (by omega)).mono ?_; rintro e w' ⟨rfl, rfl⟩))
      go_ret2
      exact ⟨rfl, rfl⟩

theorem refwithin_no (s low n : Int) (w : World) (h : s < 0 ∨ 65536 ≤ s ∨ low < 0 ∨ 65536 ≤ low ∨ n < 0 ∨ 65536 < n) :
    Calls Try.prog 20 #[.int .i64 s, .int .i64 low, .int .i64 n] w fun e w' => e = .returned (.tuple #[.bool false, .int .i64 2]) ∧ w = w' := by
  by_cases k0 : s < 0
  · clear h
    go_enter Try.func20, Try.ntmps20
    go_wp2_with (first | (go_at_call 27; refine (may_ok _ _ (by omega) (by omega)).mono ?_; rintro e w' ⟨rfl, rfl⟩) | (go_at_call 27; refine (may_no _ _ (by omega)).mono ?_; rintro e w' ⟨rfl, rfl⟩))
    go_ret2
    exact ⟨rfl, rfl⟩
  by_cases k1 : 65536 ≤ s
  · clear h
    go_enter Try.func20, Try.ntmps20
    go_wp2_with (first | (go_at_call 27; refine (may_ok _ _ (by omega) (by omega)).mono ?_; rintro e w' ⟨rfl, rfl⟩) | (go_at_call 27; refine (may_no _ _ (by omega)).mono ?_; rintro e w' ⟨rfl, rfl⟩))
    go_ret2
    exact ⟨rfl, rfl⟩
  by_cases k2 : low < 0
  · clear h
    go_enter Try.func20, Try.ntmps20
    go_wp2_with (first | (go_at_call 27; refine (may_ok _ _ (by omega) (by omega)).mono ?_; rintro e w' ⟨rfl, rfl⟩) | (go_at_call 27; refine (may_no _ _ (by omega)).mono ?_; rintro e w' ⟨rfl, rfl⟩))
    go_ret2
    exact ⟨rfl, rfl⟩
  by_cases k3 : 65536 ≤ low
  · clear h
    go_enter Try.func20, Try.ntmps20
    go_wp2_with (first | (go_at_call 27; refine (may_ok _ _ (by omega) (by omega)).mono ?_; rintro e w' ⟨rfl, rfl⟩) | (go_at_call 27; refine (may_no _ _ (by omega)).mono ?_; rintro e w' ⟨rfl, rfl⟩))
    go_ret2
    exact ⟨rfl, rfl⟩
  by_cases k4 : n < 0
  · clear h
    go_enter Try.func20, Try.ntmps20
    go_wp2_with (first | (go_at_call 27; refine (may_ok _ _ (by omega) (by omega)).mono ?_; rintro e w' ⟨rfl, rfl⟩) | (go_at_call 27; refine (may_no _ _ (by omega)).mono ?_; rintro e w' ⟨rfl, rfl⟩))
    go_ret2
    exact ⟨rfl, rfl⟩
  have k : 65536 < n := by omega
  clear h
  go_enter Try.func20, Try.ntmps20
  go_wp2_with (first | (go_at_call 27; refine (may_ok _ _ (by omega) (by omega)).mono ?_; rintro e w' ⟨rfl, rfl⟩) | (go_at_call 27; refine (may_no _ _ (by omega)).mono ?_; rintro e w' ⟨rfl, rfl⟩))
  go_ret2
  exact ⟨rfl, rfl⟩

/-- What the tries have found before try k: 'm': which one is the nearest. -/
def NearRel (s p m k best least : Int) : Prop :=
  -2 ≤ k ∧ k ≤ 20 ∧ (k ≤ m → (k = -2 ∧ best = 0 ∧ least = 1099511627776) ∨ (-2 < k ∧ best = 65536 * (k - 1) + s ∧ least = p - best)) ∧
  (m < k → best = near s p ∧ (least = near s p - p ∨ least = p - near s p) ∧ 0 ≤ least)

theorem near_m (s p : Int) (hs0 : 0 ≤ s) (hs1 : s < 65536) (hp0 : 0 ≤ p) (hp1 : p ≤ 1048576) :
    ∃ m : Int, near s p = 65536 * m + s ∧ -1 ≤ m ∧ m ≤ 17 ∧ near s p - p ≤ 32767 ∧ p - near s p ≤ 32768 := by
  unfold near
  by_cases g : (s - p) % 65536 < 32768
  · rw [if_pos g]; exact ⟨(p + (s - p) % 65536 - s) / 65536, by omega, by omega, by omega, by omega, by omega⟩
  · rw [if_neg g]; exact ⟨(p + ((s - p) % 65536 - 65536) - s) / 65536, by omega, by omega, by omega, by omega, by omega⟩

theorem refnear_ok (s place : Int) (w : World) (hs0 : 0 ≤ s) (hs1 : s < 65536) (h2 : 0 ≤ place) (h3 : place ≤ 1048576) :
    Calls Try.prog 22 #[.int .i64 s, .int .i64 place] w fun e w' => e = .returned (.tuple #[.int .i64 (near s place), .int .i64 0]) ∧ w = w' := by
  obtain ⟨m, hm, hm0, hm1, hm2, hm3⟩ := near_m s place hs0 hs1 h2 h3
  have HM := Lib.hid hm
  clear hm
  go_enter Try.func22, Try.ntmps22
  go_wp2_with (first | (go_at_call 27; refine (may_ok _ _ (by omega) (by omega)).mono ?_; rintro e w' ⟨rfl, rfl⟩) | (go_at_call 27; refine (may_no _ _ (by omega)).mono ?_; rintro e w' ⟨rfl, rfl⟩))
  go_loop [6, 7, 8, 9, 10] (fun best least k _ _ => ∃ kk b l : Int, k = .int .i64 kk ∧ best = .int .i64 b ∧ least = .int .i64 l ∧ NearRel s place m kk b l) (fun _ _ k _ _ => (20 - intOf k).toNat)
  case atStart => exact ⟨-2, 0, 1099511627776, rfl, rfl, rfl, by unfold NearRel; omega⟩
  case round =>
    obtain ⟨k, b, l, rfl, rfl, rfl, hr⟩ := hrel
    have hM := HM.out
    unfold NearRel at hr
    obtain ⟨q0, q1, q2, q3⟩ := hr
    by_cases hk : k < 20
    · by_cases g1 : 65536 * k + s - place < 0
      · by_cases g2 : place - (65536 * k + s) < l
        · have hn : NearRel s place m (k + 1) (65536 * k + s) (-(65536 * k + s - place)) := by unfold NearRel; omega
          have HN := Lib.hid hn
          have g3 : -(65536 * k + s - place) < l := by omega
          clear hM q2 q3 hn g2
          go_wp2
          go_round
          case rel => exact ⟨k + 1, _, _, by go_num, rfl, rfl, HN.out⟩
          case measure => simp [intOf]; omega
        · have hn : NearRel s place m (k + 1) b l := by unfold NearRel; omega
          have HN := Lib.hid hn
          have g3 : l ≤ -(65536 * k + s - place) := by omega
          clear hM q2 q3 hn g2
          go_wp2
          go_round
          case rel => exact ⟨k + 1, _, _, by go_num, rfl, rfl, HN.out⟩
          case measure => simp [intOf]; omega
      · by_cases g2 : 65536 * k + s - place < l
        · have hn : NearRel s place m (k + 1) (65536 * k + s) (65536 * k + s - place) := by unfold NearRel; omega
          have HN := Lib.hid hn
          clear hM q2 q3 hn
          go_wp2
          go_round
          case rel => exact ⟨k + 1, _, _, by go_num, rfl, rfl, HN.out⟩
          case measure => simp [intOf]; omega
        · have hn : NearRel s place m (k + 1) b l := by unfold NearRel; omega
          have HN := Lib.hid hn
          clear hM q2 q3 hn
          go_wp2
          go_round
          case rel => exact ⟨k + 1, _, _, by go_num, rfl, rfl, HN.out⟩
          case measure => simp [intOf]; omega
    · have hb : b = near s place := (q3 (by omega)).1
      have HB := Lib.hid hb
      clear hM q2 q3 hb
      go_wp2
      go_ret2
      exact ⟨by rw [HB.out]; rfl, rfl⟩

theorem refnear_no (s place : Int) (w : World) (h : s < 0 ∨ 65536 ≤ s ∨ place < 0 ∨ 1048576 < place) :
    Calls Try.prog 22 #[.int .i64 s, .int .i64 place] w fun e w' => e = .returned (.tuple #[.int .i64 0, .int .i64 2]) ∧ w = w' := by
  by_cases k0 : s < 0
  · clear h
    go_enter Try.func22, Try.ntmps22
    go_wp2_with (first | (go_at_call 27; refine (may_ok _ _ (by omega) (by omega)).mono ?_; rintro e w' ⟨rfl, rfl⟩) | (go_at_call 27; refine (may_no _ _ (by omega)).mono ?_; rintro e w' ⟨rfl, rfl⟩))
    go_ret2
    exact ⟨rfl, rfl⟩
  by_cases k1 : 65536 ≤ s
  · clear h
    go_enter Try.func22, Try.ntmps22
    go_wp2_with (first | (go_at_call 27; refine (may_ok _ _ (by omega) (by omega)).mono ?_; rintro e w' ⟨rfl, rfl⟩) | (go_at_call 27; refine (may_no _ _ (by omega)).mono ?_; rintro e w' ⟨rfl, rfl⟩))
    go_ret2
    exact ⟨rfl, rfl⟩
  by_cases k2 : place < 0
  · clear h
    go_enter Try.func22, Try.ntmps22
    go_wp2_with (first | (go_at_call 27; refine (may_ok _ _ (by omega) (by omega)).mono ?_; rintro e w' ⟨rfl, rfl⟩) | (go_at_call 27; refine (may_no _ _ (by omega)).mono ?_; rintro e w' ⟨rfl, rfl⟩))
    go_ret2
    exact ⟨rfl, rfl⟩
  have k : 1048576 < place := by omega
  clear h
  go_enter Try.func22, Try.ntmps22
  go_wp2_with (first | (go_at_call 27; refine (may_ok _ _ (by omega) (by omega)).mono ?_; rintro e w' ⟨rfl, rfl⟩) | (go_at_call 27; refine (may_no _ _ (by omega)).mono ?_; rintro e w' ⟨rfl, rfl⟩))
  go_ret2
  exact ⟨rfl, rfl⟩

end Go.Proofs.Ytmgjagfjpaofjaa
