/-
  The walks of packthreadkeep's five statements of layer 1 over this seat's translation: each answers true.
-/
import Derived.Test.YtmgjagfjpaofjaaSerialFace
import Derived.WalkKit
import Derived.Handy
import Derived.Lib.Hide
namespace Go.Proofs.Ytmgjagfjpaofjaa
open Go.RowKit
set_option linter.unusedVariables false

/-! The contracts once more, with the answer under a name of the caller's. -/
theorem picked_v (a n r : Int) (w : World) (hr : Hid (r = a % n)) (h1 : -9223372036854775808 ≤ a) (h2 : a ≤ 9223372036854775807) (h3 : 0 < n) (h4 : n ≤ 1048577) :
    Calls Try.prog 23 #[.int .i64 a, .int .i64 n] w fun e w' => e = .returned (.int .i64 r) ∧ w = w' := by
  rw [hr.out]; exact picked_any a n w h1 h2 h3 h4
theorem add_v (s n r : Int) (w : World) (hr : Hid (r = (s + n) % 65536)) (h0 : 0 ≤ s) (h1 : s < 65536) (h2 : 0 ≤ n) (h3 : n < 32768) :
    Calls Try.prog 13 #[.int .i64 s, .int .i64 n] w fun e w' => e = .returned (.tuple #[.int .i64 r, .int .i64 0]) ∧ Grown w w' := by
  rw [hr.out]; exact add_ok s n w h0 h1 h2 h3
theorem far_v (a b r : Int) (w : World) (hr : Hid (r = (b - a) % 65536)) (h0 : 0 ≤ a) (h1 : a < 65536) (h2 : 0 ≤ b) (h3 : b < 65536) :
    Calls Try.prog 15 #[.int .i64 a, .int .i64 b] w fun e w' => e = .returned (.tuple #[.int .i64 r, .int .i64 0]) ∧ Grown w w' := by
  rw [hr.out]; exact far_ok a b w h0 h1 h2 h3
theorem within_v (s low n : Int) (r : Bool) (w : World) (hr : Hid (r = decide ((s - low) % 65536 < n))) (h0 : 0 ≤ s) (h1 : s < 65536) (h2 : 0 ≤ low) (h3 : low < 65536) (h4 : 0 ≤ n) (h5 : n ≤ 65536) :
    Calls Try.prog 19 #[.int .i64 s, .int .i64 low, .int .i64 n] w fun e w' => e = .returned (.tuple #[.bool r, .int .i64 0]) ∧ Grown w w' := by
  rw [hr.out]; exact within_ok s low n w h0 h1 h2 h3 h4 h5
theorem near_v (s p r : Int) (w : World) (hr : Hid (r = near s p)) (h0 : 0 ≤ s) (h1 : s < 65536) (h2 : 0 ≤ p) (h3 : p ≤ 1048576) :
    Calls Try.prog 21 #[.int .i64 s, .int .i64 p] w fun e w' => e = .returned (.tuple #[.int .i64 r, .int .i64 0]) ∧ Grown w w' := by
  rw [hr.out]; exact near_ok s p w h0 h1 h2 h3
theorem so_v (a b r : Int) (w : World) (hr : Hid (r = ord a b)) (h0 : 0 ≤ a) (h1 : a < 65536) (h2 : 0 ≤ b) (h3 : b < 65536) :
    Calls Try.prog 24 #[.int .i64 a, .int .i64 b] w fun e w' => e = .returned (.int .i64 r) ∧ Grown w w' := by
  rw [hr.out]
  go_enter Try.func24, Try.ntmps24
  go_wp2_with (go_at_call 17; refine (order_ok _ _ _ h0 h1 h2 h3).mono ?_; rintro e w1 ⟨rfl, hg1⟩)
  go_ret
  exact ⟨rfl, hg1⟩

theorem ord_fwd (a x : Int) (h0 : 0 ≤ a) (h1 : a < 65536) (h2 : 0 < x) (h3 : x < 32768) : ord a ((a + x) % 65536) = -1 := by
  unfold ord; rw [if_neg (by omega), if_pos (by omega)]
theorem ord_bwd (a x : Int) (h0 : 0 ≤ a) (h1 : a < 65536) (h2 : 0 < x) (h3 : x < 32768) : ord ((a + x) % 65536) a = 1 := by
  unfold ord; rw [if_neg (by omega), if_neg (by omega), if_neg (by omega)]
theorem ord_self (a : Int) : ord a a = 0 := by unfold ord; rw [if_pos rfl]

theorem walkSerialAhead (s n m : Int) (w : World) (hs0 : -9223372036854775808 ≤ s) (hs1 : s ≤ 9223372036854775807) (hn0 : -9223372036854775808 ≤ n) (hn1 : n ≤ 9223372036854775807) (hm0 : -9223372036854775808 ≤ m) (hm1 : m ≤ 9223372036854775807) :
    Calls Try.prog 8 #[.int .i64 s, .int .i64 n, .int .i64 m] w fun e w' => e = .returned (.bool true) ∧ Grown w w' := by
  obtain ⟨a, ha⟩ : ∃ a, a = s % 65536 := ⟨_, rfl⟩
  obtain ⟨x, hx⟩ : ∃ x, x = n % 32768 := ⟨_, rfl⟩
  obtain ⟨y, hy⟩ : ∃ y, y = m % 32768 := ⟨_, rfl⟩
  obtain ⟨b, hb⟩ : ∃ b, b = (a + x) % 65536 := ⟨_, rfl⟩
  obtain ⟨c, hc⟩ : ∃ c, c = (b + y) % 65536 := ⟨_, rfl⟩
  obtain ⟨h, hh⟩ : ∃ h, h = (a - b) % 65536 := ⟨_, rfl⟩
  have ha0 : 0 ≤ a := by omega
  have ha1 : a < 65536 := by omega
  have hx0 : 0 ≤ x := by omega
  have hx1 : x < 32768 := by omega
  have hy0 : 0 ≤ y := by omega
  have hy1 : y < 32768 := by omega
  have hb0 : 0 ≤ b := by omega
  have hb1 : b < 65536 := by omega
  have hc0 : 0 ≤ c := by omega
  have hc1 : c < 65536 := by omega
  have hh0 : 0 ≤ h := by omega
  have hh1 : h < 65536 := by omega
  have D : Hid (x = (b - a) % 65536) := Lib.hid (by omega)
  have O : Hid (c = (a + (x + y)) % 65536) := Lib.hid (by omega)
  have A := Lib.hid ha
  have X := Lib.hid hx
  have Y := Lib.hid hy
  have B := Lib.hid hb
  have C := Lib.hid hc
  have H := Lib.hid hh
  by_cases gx : 0 < x
  · have O1 : Hid (-1 = ord a b) := Lib.hid (by rw [hb]; exact (ord_fwd a x ha0 ha1 gx hx1).symm)
    have O2 : Hid (1 = ord b a) := Lib.hid (by rw [hb]; exact (ord_bwd a x ha0 ha1 gx hx1).symm)
    have z1 : (x + h != 65536) = false := by simp; omega
    have z2 : (x == 0) = false := by rw [beq_eq_false_iff_ne]; omega
    clear ha hx hy hb hc hh
    by_cases g : x + y < 32768
    all_goals
      go_enter Try.func8, Try.ntmps8
      go_wp2_with fail
      refine (picked_v s 65536 a _ A (by omega) (by omega) (by omega) (by omega)).mono ?_; rintro e w' ⟨rfl, rfl⟩
      go_wp2_with fail
      refine (picked_v n 32768 x _ X (by omega) (by omega) (by omega) (by omega)).mono ?_; rintro e w' ⟨rfl, rfl⟩
      go_wp2_with fail
      refine (picked_v m 32768 y _ Y (by omega) (by omega) (by omega) (by omega)).mono ?_; rintro e w' ⟨rfl, rfl⟩
      go_wp2_with fail
      refine (add_v a x b _ B (by omega) (by omega) (by omega) (by omega)).mono ?_; rintro e w1 ⟨rfl, hg1⟩
      go_wp2_with fail
      refine (add_v b y c _ C (by omega) (by omega) (by omega) (by omega)).mono ?_; rintro e w2 ⟨rfl, hg2⟩
      go_wp2_with fail
      refine (far_v a b x _ D (by omega) (by omega) (by omega) (by omega)).mono ?_; rintro e w3 ⟨rfl, hg3⟩
      go_wp2_with fail
      refine (far_v b a h _ H (by omega) (by omega) (by omega) (by omega)).mono ?_; rintro e w4 ⟨rfl, hg4⟩
      go_wp2_with fail
      refine (so_v a b (-1) _ O1 (by omega) (by omega) (by omega) (by omega)).mono ?_; rintro e w5 ⟨rfl, hg5⟩
      go_wp2_with fail
      refine (so_v b a 1 _ O2 (by omega) (by omega) (by omega) (by omega)).mono ?_; rintro e w6 ⟨rfl, hg6⟩
      go_wp2_with fail
    · refine (add_v a (x + y) c _ O (by omega) (by omega) (by omega) (by omega)).mono ?_; rintro e w7 ⟨rfl, hg7⟩
      go_wp2
      go_ret
      exact ⟨by simp, (Grown.trans hg1 (Grown.trans hg2 (Grown.trans hg3 (Grown.trans hg4 (Grown.trans hg5 (Grown.trans hg6 hg7))))))⟩
    · go_ret
      exact ⟨by simp, (Grown.trans hg1 (Grown.trans hg2 (Grown.trans hg3 (Grown.trans hg4 (Grown.trans hg5 hg6)))))⟩
  · have x0 : x = 0 := by omega
    have O1 : Hid (0 = ord a b) := Lib.hid (by rw [show b = a by omega]; exact (ord_self a).symm)
    have O2 : Hid (0 = ord b a) := Lib.hid (by rw [show b = a by omega]; exact (ord_self a).symm)
    clear ha hx hy hb hc hh
    subst x0
    go_enter Try.func8, Try.ntmps8
    go_wp2_with fail
    refine (picked_v s 65536 a _ A (by omega) (by omega) (by omega) (by omega)).mono ?_; rintro e w' ⟨rfl, rfl⟩
    go_wp2_with fail
    refine (picked_v n 32768 0 _ X (by omega) (by omega) (by omega) (by omega)).mono ?_; rintro e w' ⟨rfl, rfl⟩
    go_wp2_with fail
    refine (picked_v m 32768 y _ Y (by omega) (by omega) (by omega) (by omega)).mono ?_; rintro e w' ⟨rfl, rfl⟩
    go_wp2_with fail
    refine (add_v a 0 b _ B (by omega) (by omega) (by omega) (by omega)).mono ?_; rintro e w1 ⟨rfl, hg1⟩
    go_wp2_with fail
    refine (add_v b y c _ C (by omega) (by omega) (by omega) (by omega)).mono ?_; rintro e w2 ⟨rfl, hg2⟩
    go_wp2_with fail
    refine (far_v a b 0 _ D (by omega) (by omega) (by omega) (by omega)).mono ?_; rintro e w3 ⟨rfl, hg3⟩
    go_wp2_with fail
    refine (far_v b a h _ H (by omega) (by omega) (by omega) (by omega)).mono ?_; rintro e w4 ⟨rfl, hg4⟩
    go_wp2_with fail
    refine (so_v a b 0 _ O1 (by omega) (by omega) (by omega) (by omega)).mono ?_; rintro e w5 ⟨rfl, hg5⟩
    go_wp2_with fail
    refine (so_v b a 0 _ O2 (by omega) (by omega) (by omega) (by omega)).mono ?_; rintro e w6 ⟨rfl, hg6⟩

    go_wp2_with fail
    refine (add_v a y c _ (Lib.hid (by have := O.out; omega)) (by omega) (by omega) (by omega) (by omega)).mono ?_; rintro e w7 ⟨rfl, hg7⟩
    go_wp2
    go_ret
    exact ⟨by simp, (Grown.trans hg1 (Grown.trans hg2 (Grown.trans hg3 (Grown.trans hg4 (Grown.trans hg5 (Grown.trans hg6 hg7))))))⟩

theorem ord_eq (a b : Int) (h : a = b) : 0 = ord a b := by unfold ord; rw [if_pos h]
theorem ord_lt (a b : Int) (h : a ≠ b) (g : (b - a) % 65536 < 32768) : -1 = ord a b := by unfold ord; rw [if_neg h, if_pos g]
theorem ord_half (a b : Int) (h : a ≠ b) (g : (b - a) % 65536 = 32768) : 2 = ord a b := by unfold ord; rw [if_neg h, if_neg (by omega), if_pos g]
theorem ord_gt (a b : Int) (h : a ≠ b) (g : 32768 < (b - a) % 65536) : 1 = ord a b := by unfold ord; rw [if_neg h, if_neg (by omega), if_neg (by omega)]

set_option maxHeartbeats 1000000 in
theorem walkSerialHalf (a b n : Int) (w : World) (hal : -9223372036854775808 ≤ a) (hah : a ≤ 9223372036854775807) (hbl : -9223372036854775808 ≤ b) (hbh : b ≤ 9223372036854775807) (hnl : -9223372036854775808 ≤ n) (hnh : n ≤ 9223372036854775807) :
    Calls Try.prog 9 #[.int .i64 a, .int .i64 b, .int .i64 n] w fun e w' => e = .returned (.bool true) ∧ Grown w w' := by
  obtain ⟨x, hx⟩ : ∃ x, x = a % 65536 := ⟨_, rfl⟩
  obtain ⟨y, hy⟩ : ∃ y, y = b % 65536 := ⟨_, rfl⟩
  obtain ⟨k, hk⟩ : ∃ k, k = n % 32768 := ⟨_, rfl⟩
  obtain ⟨p, hp⟩ : ∃ p, p = (x + k) % 65536 := ⟨_, rfl⟩
  obtain ⟨q, hq⟩ : ∃ q, q = (y + k) % 65536 := ⟨_, rfl⟩
  have x0 : 0 ≤ x := by omega
  have x1 : x < 65536 := by omega
  have y0 : 0 ≤ y := by omega
  have y1 : y < 65536 := by omega
  have k0 : 0 ≤ k := by omega
  have k1 : k < 32768 := by omega
  have p0 : 0 ≤ p := by omega
  have p1 : p < 65536 := by omega
  have q0 : 0 ≤ q := by omega
  have q1 : q < 65536 := by omega
  have A := Lib.hid hx
  have B := Lib.hid hy
  have K := Lib.hid hk
  have P := Lib.hid hp
  have Q := Lib.hid hq
  by_cases g : x = y
  · have O1 : Hid (0 = ord x y) := Lib.hid (ord_eq _ _ (by omega))
    have O2 : Hid (0 = ord y x) := Lib.hid (ord_eq _ _ (by omega))
    have O3 : Hid (0 = ord p q) := Lib.hid (ord_eq _ _ (by omega))
    have z : (x == y) = true := by rw [beq_iff_eq]; exact g
    clear hx hy hk hp hq g
    go_enter Try.func9, Try.ntmps9
    go_wp2_with fail
    refine (picked_v a 65536 x _ A (by omega) (by omega) (by omega) (by omega)).mono ?_; rintro e w' ⟨rfl, rfl⟩
    go_wp2_with fail
    refine (picked_v b 65536 y _ B (by omega) (by omega) (by omega) (by omega)).mono ?_; rintro e w' ⟨rfl, rfl⟩
    go_wp2_with fail
    refine (picked_v n 32768 k _ K (by omega) (by omega) (by omega) (by omega)).mono ?_; rintro e w' ⟨rfl, rfl⟩
    go_wp2_with fail
    refine (add_v x k p _ P (by omega) (by omega) (by omega) (by omega)).mono ?_; rintro e w1 ⟨rfl, hg1⟩
    go_wp2_with fail
    refine (add_v y k q _ Q (by omega) (by omega) (by omega) (by omega)).mono ?_; rintro e w2 ⟨rfl, hg2⟩
    go_wp2_with fail
    refine (so_v x y (0) _ O1 (by omega) (by omega) (by omega) (by omega)).mono ?_; rintro e w3 ⟨rfl, hg3⟩
    go_wp2_with fail
    refine (so_v y x (0) _ O2 (by omega) (by omega) (by omega) (by omega)).mono ?_; rintro e w4 ⟨rfl, hg4⟩
    go_wp2_with fail
    refine (so_v p q (0) _ O3 (by omega) (by omega) (by omega) (by omega)).mono ?_; rintro e w5 ⟨rfl, hg5⟩
    go_wp2
    go_ret
    exact ⟨by simp, (Grown.trans hg1 (Grown.trans hg2 (Grown.trans hg3 (Grown.trans hg4 hg5))))⟩
  · have z : (x == y) = false := by rw [beq_eq_false_iff_ne]; exact g
    by_cases g1 : (y - x) % 65536 < 32768
    · have O1 : Hid (-1 = ord x y) := Lib.hid (ord_lt _ _ (by omega) (by omega))
      have O2 : Hid (1 = ord y x) := Lib.hid (ord_gt _ _ (by omega) (by omega))
      have O3 : Hid (-1 = ord p q) := Lib.hid (ord_lt _ _ (by omega) (by omega))
      clear hx hy hk hp hq g g1
      go_enter Try.func9, Try.ntmps9
      go_wp2_with fail
      refine (picked_v a 65536 x _ A (by omega) (by omega) (by omega) (by omega)).mono ?_; rintro e w' ⟨rfl, rfl⟩
      go_wp2_with fail
      refine (picked_v b 65536 y _ B (by omega) (by omega) (by omega) (by omega)).mono ?_; rintro e w' ⟨rfl, rfl⟩
      go_wp2_with fail
      refine (picked_v n 32768 k _ K (by omega) (by omega) (by omega) (by omega)).mono ?_; rintro e w' ⟨rfl, rfl⟩
      go_wp2_with fail
      refine (add_v x k p _ P (by omega) (by omega) (by omega) (by omega)).mono ?_; rintro e w1 ⟨rfl, hg1⟩
      go_wp2_with fail
      refine (add_v y k q _ Q (by omega) (by omega) (by omega) (by omega)).mono ?_; rintro e w2 ⟨rfl, hg2⟩
      go_wp2_with fail
      refine (so_v x y (-1) _ O1 (by omega) (by omega) (by omega) (by omega)).mono ?_; rintro e w3 ⟨rfl, hg3⟩
      go_wp2_with fail
      refine (so_v y x (1) _ O2 (by omega) (by omega) (by omega) (by omega)).mono ?_; rintro e w4 ⟨rfl, hg4⟩
      go_wp2_with fail
      refine (so_v p q (-1) _ O3 (by omega) (by omega) (by omega) (by omega)).mono ?_; rintro e w5 ⟨rfl, hg5⟩
      go_wp2
      go_ret
      exact ⟨by simp, (Grown.trans hg1 (Grown.trans hg2 (Grown.trans hg3 (Grown.trans hg4 hg5))))⟩
    · by_cases g2 : (y - x) % 65536 = 32768
      · have O1 : Hid (2 = ord x y) := Lib.hid (ord_half _ _ (by omega) (by omega))
        have O2 : Hid (2 = ord y x) := Lib.hid (ord_half _ _ (by omega) (by omega))
        have O3 : Hid (2 = ord p q) := Lib.hid (ord_half _ _ (by omega) (by omega))
        by_cases g3 : x < y
        · have z1 : (x - y == 32768) = false := by rw [beq_eq_false_iff_ne]; omega
          have z2 : (y - x == 32768) = true := by rw [beq_iff_eq]; omega
          clear hx hy hk hp hq g g1 g2
          go_enter Try.func9, Try.ntmps9
          go_wp2_with fail
          refine (picked_v a 65536 x _ A (by omega) (by omega) (by omega) (by omega)).mono ?_; rintro e w' ⟨rfl, rfl⟩
          go_wp2_with fail
          refine (picked_v b 65536 y _ B (by omega) (by omega) (by omega) (by omega)).mono ?_; rintro e w' ⟨rfl, rfl⟩
          go_wp2_with fail
          refine (picked_v n 32768 k _ K (by omega) (by omega) (by omega) (by omega)).mono ?_; rintro e w' ⟨rfl, rfl⟩
          go_wp2_with fail
          refine (add_v x k p _ P (by omega) (by omega) (by omega) (by omega)).mono ?_; rintro e w1 ⟨rfl, hg1⟩
          go_wp2_with fail
          refine (add_v y k q _ Q (by omega) (by omega) (by omega) (by omega)).mono ?_; rintro e w2 ⟨rfl, hg2⟩
          go_wp2_with fail
          refine (so_v x y (2) _ O1 (by omega) (by omega) (by omega) (by omega)).mono ?_; rintro e w3 ⟨rfl, hg3⟩
          go_wp2_with fail
          refine (so_v y x (2) _ O2 (by omega) (by omega) (by omega) (by omega)).mono ?_; rintro e w4 ⟨rfl, hg4⟩
          go_wp2_with fail
          refine (so_v p q (2) _ O3 (by omega) (by omega) (by omega) (by omega)).mono ?_; rintro e w5 ⟨rfl, hg5⟩
          go_wp2
          go_ret
          exact ⟨by simp, (Grown.trans hg1 (Grown.trans hg2 (Grown.trans hg3 (Grown.trans hg4 hg5))))⟩
        · have z1 : (x - y == 32768) = true := by rw [beq_iff_eq]; omega
          clear hx hy hk hp hq g g1 g2
          go_enter Try.func9, Try.ntmps9
          go_wp2_with fail
          refine (picked_v a 65536 x _ A (by omega) (by omega) (by omega) (by omega)).mono ?_; rintro e w' ⟨rfl, rfl⟩
          go_wp2_with fail
          refine (picked_v b 65536 y _ B (by omega) (by omega) (by omega) (by omega)).mono ?_; rintro e w' ⟨rfl, rfl⟩
          go_wp2_with fail
          refine (picked_v n 32768 k _ K (by omega) (by omega) (by omega) (by omega)).mono ?_; rintro e w' ⟨rfl, rfl⟩
          go_wp2_with fail
          refine (add_v x k p _ P (by omega) (by omega) (by omega) (by omega)).mono ?_; rintro e w1 ⟨rfl, hg1⟩
          go_wp2_with fail
          refine (add_v y k q _ Q (by omega) (by omega) (by omega) (by omega)).mono ?_; rintro e w2 ⟨rfl, hg2⟩
          go_wp2_with fail
          refine (so_v x y (2) _ O1 (by omega) (by omega) (by omega) (by omega)).mono ?_; rintro e w3 ⟨rfl, hg3⟩
          go_wp2_with fail
          refine (so_v y x (2) _ O2 (by omega) (by omega) (by omega) (by omega)).mono ?_; rintro e w4 ⟨rfl, hg4⟩
          go_wp2_with fail
          refine (so_v p q (2) _ O3 (by omega) (by omega) (by omega) (by omega)).mono ?_; rintro e w5 ⟨rfl, hg5⟩
          go_wp2
          go_ret
          exact ⟨by simp, (Grown.trans hg1 (Grown.trans hg2 (Grown.trans hg3 (Grown.trans hg4 hg5))))⟩
      · have O1 : Hid (1 = ord x y) := Lib.hid (ord_gt _ _ (by omega) (by omega))
        have O2 : Hid (-1 = ord y x) := Lib.hid (ord_lt _ _ (by omega) (by omega))
        have O3 : Hid (1 = ord p q) := Lib.hid (ord_gt _ _ (by omega) (by omega))
        clear hx hy hk hp hq g g1 g2
        go_enter Try.func9, Try.ntmps9
        go_wp2_with fail
        refine (picked_v a 65536 x _ A (by omega) (by omega) (by omega) (by omega)).mono ?_; rintro e w' ⟨rfl, rfl⟩
        go_wp2_with fail
        refine (picked_v b 65536 y _ B (by omega) (by omega) (by omega) (by omega)).mono ?_; rintro e w' ⟨rfl, rfl⟩
        go_wp2_with fail
        refine (picked_v n 32768 k _ K (by omega) (by omega) (by omega) (by omega)).mono ?_; rintro e w' ⟨rfl, rfl⟩
        go_wp2_with fail
        refine (add_v x k p _ P (by omega) (by omega) (by omega) (by omega)).mono ?_; rintro e w1 ⟨rfl, hg1⟩
        go_wp2_with fail
        refine (add_v y k q _ Q (by omega) (by omega) (by omega) (by omega)).mono ?_; rintro e w2 ⟨rfl, hg2⟩
        go_wp2_with fail
        refine (so_v x y (1) _ O1 (by omega) (by omega) (by omega) (by omega)).mono ?_; rintro e w3 ⟨rfl, hg3⟩
        go_wp2_with fail
        refine (so_v y x (-1) _ O2 (by omega) (by omega) (by omega) (by omega)).mono ?_; rintro e w4 ⟨rfl, hg4⟩
        go_wp2_with fail
        refine (so_v p q (1) _ O3 (by omega) (by omega) (by omega) (by omega)).mono ?_; rintro e w5 ⟨rfl, hg5⟩
        go_wp2
        go_ret
        exact ⟨by simp, (Grown.trans hg1 (Grown.trans hg2 (Grown.trans hg3 (Grown.trans hg4 hg5))))⟩

theorem near_eq (x p : Int) (h0 : p - x ≤ 32767) (h1 : x - p ≤ 32767) : x = near (x % 65536) p := by
  unfold near
  by_cases g : (x % 65536 - p) % 65536 < 32768
  · rw [if_pos g]; omega
  · rw [if_neg g]; omega

theorem walkNearBack (a b : Int) (w : World) (hal : -9223372036854775808 ≤ a) (hah : a ≤ 9223372036854775807) (hbl : -9223372036854775808 ≤ b) (hbh : b ≤ 9223372036854775807) :
    Calls Try.prog 10 #[.int .i64 a, .int .i64 b] w fun e w' => e = .returned (.bool true) ∧ Grown w w' := by
  obtain ⟨p, hp⟩ : ∃ p, p = a % 1048577 := ⟨_, rfl⟩
  obtain ⟨d, hd⟩ : ∃ d, d = b % 65535 := ⟨_, rfl⟩
  have p0 : 0 ≤ p := by omega
  have p1 : p ≤ 1048576 := by omega
  have d0 : 0 ≤ d := by omega
  have d1 : d ≤ 65534 := by omega
  have P := Lib.hid hp
  have D := Lib.hid hd
  have S : Hid (p = near (p % 65536) p) := Lib.hid (near_eq _ _ (by omega) (by omega))
  have m0 : 0 ≤ p % 65536 := by omega
  have m1 : p % 65536 < 65536 := by omega
  by_cases g : p + (d - 32767) < 0
  · have N : Hid (0 = near 0 p) := Lib.hid (near_eq 0 _ (by omega) (by omega))
    clear hp hd
    go_enter Try.func10, Try.ntmps10
    go_wp2_with fail
    refine (picked_v a 1048577 p _ P (by omega) (by omega) (by omega) (by omega)).mono ?_; rintro e w' ⟨rfl, rfl⟩
    go_wp2_with fail
    refine (picked_v b 65535 d _ D (by omega) (by omega) (by omega) (by omega)).mono ?_; rintro e w' ⟨rfl, rfl⟩
    go_wp2_with fail
    refine (near_v 0 p 0 _ N (by omega) (by omega) (by omega) (by omega)).mono ?_; rintro e w1 ⟨rfl, hg1⟩
    go_wp2_with fail
    refine (near_v (p % 65536) p p _ S (by omega) (by omega) (by omega) (by omega)).mono ?_; rintro e w2 ⟨rfl, hg2⟩

    go_wp2
    go_ret
    exact ⟨by simp, Grown.trans hg1 hg2⟩
  · have N : Hid (p + (d - 32767) = near ((p + (d - 32767)) % 65536) p) := Lib.hid (near_eq _ _ (by omega) (by omega))
    have m2 : 0 ≤ (p + (d - 32767)) % 65536 := by omega
    have m3 : (p + (d - 32767)) % 65536 < 65536 := by omega
    clear hp hd
    go_enter Try.func10, Try.ntmps10
    go_wp2_with fail
    refine (picked_v a 1048577 p _ P (by omega) (by omega) (by omega) (by omega)).mono ?_; rintro e w' ⟨rfl, rfl⟩
    go_wp2_with fail
    refine (picked_v b 65535 d _ D (by omega) (by omega) (by omega) (by omega)).mono ?_; rintro e w' ⟨rfl, rfl⟩
    go_wp2_with fail
    refine (near_v ((p + (d - 32767)) % 65536) p (p + (d - 32767)) _ N (by omega) (by omega) (by omega) (by omega)).mono ?_; rintro e w1 ⟨rfl, hg1⟩
    go_wp2_with fail
    refine (near_v (p % 65536) p p _ S (by omega) (by omega) (by omega) (by omega)).mono ?_; rintro e w2 ⟨rfl, hg2⟩

    go_wp2
    go_ret
    exact ⟨by simp, Grown.trans hg1 hg2⟩

theorem walkWithinSplit (s low n m : Int) (w : World) (hsl : -9223372036854775808 ≤ s) (hsh : s ≤ 9223372036854775807) (hlowl : -9223372036854775808 ≤ low) (hlowh : low ≤ 9223372036854775807) (hnl : -9223372036854775808 ≤ n) (hnh : n ≤ 9223372036854775807) (hml : -9223372036854775808 ≤ m) (hmh : m ≤ 9223372036854775807) :
    Calls Try.prog 11 #[.int .i64 s, .int .i64 low, .int .i64 n, .int .i64 m] w fun e w' => e = .returned (.bool true) ∧ Grown w w' := by
  obtain ⟨x, hx⟩ : ∃ x, x = s % 65536 := ⟨_, rfl⟩
  obtain ⟨l, hl⟩ : ∃ l, l = low % 65536 := ⟨_, rfl⟩
  obtain ⟨k, hk⟩ : ∃ k, k = n % 32768 := ⟨_, rfl⟩
  obtain ⟨j, hj⟩ : ∃ j, j = m % 32768 := ⟨_, rfl⟩
  obtain ⟨mid, hm⟩ : ∃ mid, mid = (l + k) % 65536 := ⟨_, rfl⟩
  have x0 : 0 ≤ x := by omega
  have x1 : x < 65536 := by omega
  have l0 : 0 ≤ l := by omega
  have l1 : l < 65536 := by omega
  have k0 : 0 ≤ k := by omega
  have k1 : k < 32768 := by omega
  have j0 : 0 ≤ j := by omega
  have j1 : j < 32768 := by omega
  have mid0 : 0 ≤ mid := by omega
  have mid1 : mid < 65536 := by omega
  have X := Lib.hid hx
  have L := Lib.hid hl
  have K := Lib.hid hk
  have J := Lib.hid hj
  have M := Lib.hid hm
  have W4 : Hid (true = decide ((x - l) % 65536 < 65536)) := Lib.hid (by symm; simp; omega)
  have W5 : Hid (false = decide ((x - l) % 65536 < 0)) := Lib.hid (by symm; simp; omega)
  by_cases g1 : (x - l) % 65536 < k
  · have W1 : Hid (true = decide ((x - l) % 65536 < k)) := Lib.hid (by symm; simp; omega)
    have W2 : Hid (false = decide ((x - mid) % 65536 < j)) := Lib.hid (by symm; simp; omega)
    have W3 : Hid (true = decide ((x - l) % 65536 < k + j)) := Lib.hid (by symm; simp; omega)
    clear hx hl hk hj hm
    clear g1
    go_enter Try.func11, Try.ntmps11
    go_wp2_with fail
    refine (picked_v s 65536 x _ X (by omega) (by omega) (by omega) (by omega)).mono ?_; rintro e w' ⟨rfl, rfl⟩
    go_wp2_with fail
    refine (picked_v low 65536 l _ L (by omega) (by omega) (by omega) (by omega)).mono ?_; rintro e w' ⟨rfl, rfl⟩
    go_wp2_with fail
    refine (picked_v n 32768 k _ K (by omega) (by omega) (by omega) (by omega)).mono ?_; rintro e w' ⟨rfl, rfl⟩
    go_wp2_with fail
    refine (picked_v m 32768 j _ J (by omega) (by omega) (by omega) (by omega)).mono ?_; rintro e w' ⟨rfl, rfl⟩
    go_wp2_with fail
    refine (add_v l k mid _ M (by omega) (by omega) (by omega) (by omega)).mono ?_; rintro e w1 ⟨rfl, hg1⟩
    go_wp2_with fail
    refine (within_v x l k true _ W1 (by omega) (by omega) (by omega) (by omega) (by omega) (by omega)).mono ?_; rintro e w2 ⟨rfl, hg2⟩
    go_wp2_with fail
    refine (within_v x mid j false _ W2 (by omega) (by omega) (by omega) (by omega) (by omega) (by omega)).mono ?_; rintro e w3 ⟨rfl, hg3⟩
    go_wp2_with fail
    refine (within_v x l (k + j) true _ W3 (by omega) (by omega) (by omega) (by omega) (by omega) (by omega)).mono ?_; rintro e w4 ⟨rfl, hg4⟩
    go_wp2_with fail
    refine (within_v x l 65536 true _ W4 (by omega) (by omega) (by omega) (by omega) (by omega) (by omega)).mono ?_; rintro e w5 ⟨rfl, hg5⟩
    go_wp2_with fail
    refine (within_v x l 0 false _ W5 (by omega) (by omega) (by omega) (by omega) (by omega) (by omega)).mono ?_; rintro e w6 ⟨rfl, hg6⟩
    go_wp2
    go_ret
    exact ⟨by simp, (Grown.trans hg1 (Grown.trans hg2 (Grown.trans hg3 (Grown.trans hg4 (Grown.trans hg5 hg6)))))⟩
  · by_cases g2 : (x - l) % 65536 < k + j
    · have W1 : Hid (false = decide ((x - l) % 65536 < k)) := Lib.hid (by symm; simp; omega)
      have W2 : Hid (true = decide ((x - mid) % 65536 < j)) := Lib.hid (by symm; simp; omega)
      have W3 : Hid (true = decide ((x - l) % 65536 < k + j)) := Lib.hid (by symm; simp; omega)
      clear hx hl hk hj hm
      clear g1 g2
      go_enter Try.func11, Try.ntmps11
      go_wp2_with fail
      refine (picked_v s 65536 x _ X (by omega) (by omega) (by omega) (by omega)).mono ?_; rintro e w' ⟨rfl, rfl⟩
      go_wp2_with fail
      refine (picked_v low 65536 l _ L (by omega) (by omega) (by omega) (by omega)).mono ?_; rintro e w' ⟨rfl, rfl⟩
      go_wp2_with fail
      refine (picked_v n 32768 k _ K (by omega) (by omega) (by omega) (by omega)).mono ?_; rintro e w' ⟨rfl, rfl⟩
      go_wp2_with fail
      refine (picked_v m 32768 j _ J (by omega) (by omega) (by omega) (by omega)).mono ?_; rintro e w' ⟨rfl, rfl⟩
      go_wp2_with fail
      refine (add_v l k mid _ M (by omega) (by omega) (by omega) (by omega)).mono ?_; rintro e w1 ⟨rfl, hg1⟩
      go_wp2_with fail
      refine (within_v x l k false _ W1 (by omega) (by omega) (by omega) (by omega) (by omega) (by omega)).mono ?_; rintro e w2 ⟨rfl, hg2⟩
      go_wp2_with fail
      refine (within_v x mid j true _ W2 (by omega) (by omega) (by omega) (by omega) (by omega) (by omega)).mono ?_; rintro e w3 ⟨rfl, hg3⟩
      go_wp2_with fail
      refine (within_v x l (k + j) true _ W3 (by omega) (by omega) (by omega) (by omega) (by omega) (by omega)).mono ?_; rintro e w4 ⟨rfl, hg4⟩
      go_wp2_with fail
      refine (within_v x l 65536 true _ W4 (by omega) (by omega) (by omega) (by omega) (by omega) (by omega)).mono ?_; rintro e w5 ⟨rfl, hg5⟩
      go_wp2_with fail
      refine (within_v x l 0 false _ W5 (by omega) (by omega) (by omega) (by omega) (by omega) (by omega)).mono ?_; rintro e w6 ⟨rfl, hg6⟩
      go_wp2
      go_ret
      exact ⟨by simp, (Grown.trans hg1 (Grown.trans hg2 (Grown.trans hg3 (Grown.trans hg4 (Grown.trans hg5 hg6)))))⟩
    · have W1 : Hid (false = decide ((x - l) % 65536 < k)) := Lib.hid (by symm; simp; omega)
      have W2 : Hid (false = decide ((x - mid) % 65536 < j)) := Lib.hid (by symm; simp; omega)
      have W3 : Hid (false = decide ((x - l) % 65536 < k + j)) := Lib.hid (by symm; simp; omega)
      clear hx hl hk hj hm
      clear g1 g2
      go_enter Try.func11, Try.ntmps11
      go_wp2_with fail
      refine (picked_v s 65536 x _ X (by omega) (by omega) (by omega) (by omega)).mono ?_; rintro e w' ⟨rfl, rfl⟩
      go_wp2_with fail
      refine (picked_v low 65536 l _ L (by omega) (by omega) (by omega) (by omega)).mono ?_; rintro e w' ⟨rfl, rfl⟩
      go_wp2_with fail
      refine (picked_v n 32768 k _ K (by omega) (by omega) (by omega) (by omega)).mono ?_; rintro e w' ⟨rfl, rfl⟩
      go_wp2_with fail
      refine (picked_v m 32768 j _ J (by omega) (by omega) (by omega) (by omega)).mono ?_; rintro e w' ⟨rfl, rfl⟩
      go_wp2_with fail
      refine (add_v l k mid _ M (by omega) (by omega) (by omega) (by omega)).mono ?_; rintro e w1 ⟨rfl, hg1⟩
      go_wp2_with fail
      refine (within_v x l k false _ W1 (by omega) (by omega) (by omega) (by omega) (by omega) (by omega)).mono ?_; rintro e w2 ⟨rfl, hg2⟩
      go_wp2_with fail
      refine (within_v x mid j false _ W2 (by omega) (by omega) (by omega) (by omega) (by omega) (by omega)).mono ?_; rintro e w3 ⟨rfl, hg3⟩
      go_wp2_with fail
      refine (within_v x l (k + j) false _ W3 (by omega) (by omega) (by omega) (by omega) (by omega) (by omega)).mono ?_; rintro e w4 ⟨rfl, hg4⟩
      go_wp2_with fail
      refine (within_v x l 65536 true _ W4 (by omega) (by omega) (by omega) (by omega) (by omega) (by omega)).mono ?_; rintro e w5 ⟨rfl, hg5⟩
      go_wp2_with fail
      refine (within_v x l 0 false _ W5 (by omega) (by omega) (by omega) (by omega) (by omega) (by omega)).mono ?_; rintro e w6 ⟨rfl, hg6⟩
      go_wp2
      go_ret
      exact ⟨by simp, (Grown.trans hg1 (Grown.trans hg2 (Grown.trans hg3 (Grown.trans hg4 (Grown.trans hg5 hg6)))))⟩

theorem walkSerialRound (s step : Int) (w : World) (hsl : -9223372036854775808 ≤ s) (hsh : s ≤ 9223372036854775807) (hstepl : -9223372036854775808 ≤ step) (hsteph : step ≤ 9223372036854775807) :
    Calls Try.prog 12 #[.int .i64 s, .int .i64 step] w fun e w' => e = .returned (.bool true) ∧ Grown w w' := by
  obtain ⟨a, ha⟩ : ∃ a, a = s % 65536 := ⟨_, rfl⟩
  obtain ⟨t, ht⟩ : ∃ t, t = step % 100 := ⟨_, rfl⟩
  obtain ⟨one, ho⟩ : ∃ one, one = (a + (1 + 2 * t)) % 65536 := ⟨_, rfl⟩
  have a0 : 0 ≤ a := by omega
  have a1 : a < 65536 := by omega
  have t0 : 0 ≤ t := by omega
  have t1 : t < 100 := by omega
  have o0 : 0 ≤ one := by omega
  have o1 : one < 65536 := by omega
  have A := Lib.hid ha
  have T := Lib.hid ht
  have O := Lib.hid ho
  have FF : Hid (65536 - (1 + 2 * t) = (a - one) % 65536) := Lib.hid (by omega)
  clear ha ht ho
  go_enter Try.func12, Try.ntmps12
  go_wp2_with fail
  refine (picked_v s 65536 a _ A (by omega) (by omega) (by omega) (by omega)).mono ?_; rintro e w' ⟨rfl, rfl⟩

  go_wp2_with fail
  go_loopw [6, 7] (fun x i wr => ∃ k : Nat, k ≤ 4 ∧ i = .int .i64 k ∧ x = .int .i64 ((a + 16384 * k) % 65536) ∧ Grown w wr) (fun _ i _ => (4 - intOf i).toNat)
  case atStart => exact ⟨0, by omega, rfl, by simp; omega, Grown.refl _⟩
  case round =>
    obtain ⟨k, hk, rfl, rfl, hgr⟩ := hrel
    by_cases hlt : k < 4
    · obtain ⟨x, hx⟩ : ∃ x, x = (a + 16384 * (k : Int)) % 65536 := ⟨_, rfl⟩
      obtain ⟨y, hy⟩ : ∃ y, y = (x + 16384) % 65536 := ⟨_, rfl⟩
      have x0 : 0 ≤ x := by omega
      have x1 : x < 65536 := by omega
      have z : (y == x) = false := by rw [beq_eq_false_iff_ne]; omega
      have N : Hid (y = (a + 16384 * ((k + 1 : Nat) : Int)) % 65536) := Lib.hid (by omega)
      have Y := Lib.hid hy
      rw [← hx]
      clear hx hy
      go_wp2_with fail
      refine (add_v x 16384 y _ Y (by omega) (by omega) (by omega) (by omega)).mono ?_; rintro e w1 ⟨rfl, hg1⟩
      go_wp2
      go_roundw
      case rel => exact ⟨k + 1, by omega, by go_num, by rw [N.out], Grown.trans hgr hg1⟩
      case measure => simp [intOf]; omega
    · have k4 : k = 4 := by omega
      subst k4
      have e4 : Hid ((a + 16384 * ((4 : Nat) : Int)) % 65536 = a) := Lib.hid (by omega)
      rw [e4.out]
      go_wp2_with fail
      refine (picked_v step 100 t _ T (by omega) (by omega) (by omega) (by omega)).mono ?_; rintro e w' ⟨rfl, rfl⟩
      go_wp2_with fail
      refine (add_v a (1 + 2 * t) one _ O (by omega) (by omega) (by omega) (by omega)).mono ?_; rintro e w1 ⟨rfl, hg1⟩
      go_wp2_with fail
      refine (far_v one a (65536 - (1 + 2 * t)) _ FF (by omega) (by omega) (by omega) (by omega)).mono ?_; rintro e w2 ⟨rfl, hg2⟩
      go_wp2
      go_ret
      exact ⟨by simp, Grown.trans hgr (Grown.trans hg1 hg2)⟩

end Go.Proofs.Ytmgjagfjpaofjaa
