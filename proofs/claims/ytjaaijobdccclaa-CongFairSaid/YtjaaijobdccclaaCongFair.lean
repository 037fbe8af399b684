/-
  The walk of CongFair.
-/
import Derived.Test.YtjaaijobdccclaaCongParts
namespace Go.Proofs.Ytjaaijobdccclaa
open Go.RowKit
set_option linter.unusedVariables false
set_option linter.unusedSimpArgs false

theorem far_any (x y r : Int) (w : World) (hx0 : 0 ≤ x) (hx1 : x ≤ 64) (hy0 : 0 ≤ y) (hy1 : y ≤ 64) (hr : r = max (x - y) (y - x)) :
    Calls Try.prog 13 #[.int .i64 x, .int .i64 y] w fun e w' => e = .returned (.int .i64 r) ∧ w' = w := by
  have hc : (x < y ∧ r = y - x) ∨ (¬ x < y ∧ r = x - y) := by omega
  clear hr
  rcases hc with ⟨h, rfl⟩ | ⟨h, rfl⟩
  all_goals
    go_enter Try.func13, Try.ntmps13
    go_wp2
    go_ret
    exact ⟨rfl, rfl⟩

theorem plays_two (S : List Sig) : ∃ a b d : Int, 1 ≤ a ∧ a ≤ 64 ∧ (plays wd0 (S ++ [(1, 1), (2, 0)]))[S.length]? = some ⟨a, b, d⟩ ∧ (plays wd0 (S ++ [(1, 1), (2, 0)]))[S.length + 1]? = some ⟨half a, half a, 0⟩ := by
  have hg := after_good (S ++ [((1 : Int), (1 : Int))]) good0
  obtain ⟨⟨a, b, d⟩, hx⟩ : ∃ x, x = after wd0 (S ++ [((1 : Int), (1 : Int))]) := ⟨_, rfl⟩
  rw [← hx] at hg
  refine ⟨a, b, d, hg.w0, hg.w1, ?_, ?_⟩
  · rw [plays_get wd0 _ _ (by simp), List.take_append, List.take_of_length_le (by omega), show S.length + 1 - S.length = 1 by omega, hx]
    rfl
  · rw [plays_get wd0 _ _ (by simp), List.take_of_length_le (by simp), show S ++ [((1 : Int), (1 : Int)), (2, 0)] = (S ++ [(1, 1)]) ++ [(2, 0)] by simp, after_app, ← hx]
    rfl

theorem signals_80 (A : Option Addr) (n c : Nat) (zs : List Int) (w : World) (hb : Is w A zs) (hn : zs.length = n) (h47 : n ≤ 17592186043904) :
    Calls Try.prog 10 #[.slice A n c, .int .i64 80] w fun e w' => ∃ A' m c', m = min 80 n ∧ e = .returned (.slice A' m c') ∧ OwnL sgS 35 w' w.heap.size A' m c' (sigs zs 80) ∧ Below w.heap.size w w' :=
  signals_any A n c zs 80 w hb hn (by omega) h47

set_option maxRecDepth 100000 in
set_option maxHeartbeats 4000000 in
theorem walkCongFair (A : Option Addr) (n c : Nat) (zs : List Int) (A' : Option Addr) (n' c' : Nat) (zs' : List Int) (w : World) (hb : Is w A zs) (hn : zs.length = n) (hc : n ≤ c) (hr : c ≤ 17592186043904) (hb' : Is w A' zs') (hn' : zs'.length = n') (hc' : n' ≤ c') (hr' : c' ≤ 17592186043904) :
    Calls Try.prog 7 #[.slice A n c, .slice A' n' c'] w fun e w' => e = .returned (.bool true) ∧ Below w.heap.size w w' := by
  have HB := Lib.hid hb
  have HN := Lib.hid hn
  have HB' := Lib.hid hb'
  have HN' := Lib.hid hn'
  have h47 : n ≤ 17592186043904 := by omega
  have h47' : n' ≤ 17592186043904 := by omega
  clear hb hn hb' hn'
  obtain ⟨S, hS⟩ : ∃ S, S = sigs zs 80 := ⟨_, rfl⟩
  have HSO : Hid (∀ g ∈ S ++ [((1 : Int), (1 : Int)), (2, 0)], sigCode g = 0) := Lib.hid (by rw [hS]; exact sig_all (sigs_ok zs 80) (by decide))
  have HSL : Hid (S.length = min 80 n) := Lib.hid (by rw [hS, sigs_len, HN.out])
  have HS := Lib.hid hS
  obtain ⟨T, hT⟩ : ∃ T, T = sigs zs' 80 := ⟨_, rfl⟩
  have HTO : Hid (∀ g ∈ T ++ [((1 : Int), (1 : Int)), (2, 0)], sigCode g = 0) := Lib.hid (by rw [hT]; exact sig_all (sigs_ok zs' 80) (by decide))
  have HTL : Hid (T.length = min 80 n') := Lib.hid (by rw [hT, sigs_len, HN'.out])
  have HT := Lib.hid hT
  clear hS hT
  obtain ⟨N, hN⟩ : ∃ N, N = min 80 n + 2 := ⟨_, rfl⟩
  obtain ⟨M, hM⟩ : ∃ M, M = min 80 n' + 2 := ⟨_, rfl⟩
  have n1 : 2 ≤ N := by omega
  have n2 : N ≤ 82 := by omega
  have m1 : 2 ≤ M := by omega
  have m2 : M ≤ 82 := by omega
  obtain ⟨a, p1, p2, a0, a1, ha, hha⟩ := plays_two S
  obtain ⟨b, q1, q2, b0, b1, hb, hhb⟩ := plays_two T
  rw [show S.length = N - 2 by rw [HSL.out]; omega] at ha
  rw [show S.length + 1 = N - 1 by rw [HSL.out]; omega] at hha
  rw [show T.length = M - 2 by rw [HTL.out]; omega] at hb
  rw [show T.length + 1 = M - 1 by rw [HTL.out]; omega] at hhb
  have HL1 : Hid ((S ++ [((1 : Int), (1 : Int)), (2, 0)]).length = N) := Lib.hid (by simp [HSL.out]; omega)
  have HL2 : Hid ((T ++ [((1 : Int), (1 : Int)), (2, 0)]).length = M) := Lib.hid (by simp [HTL.out]; omega)
  have hne := half_near a b
  obtain ⟨ua, hua⟩ : ∃ u, u = half a := ⟨_, rfl⟩
  obtain ⟨ub, hub⟩ : ∃ u, u = half b := ⟨_, rfl⟩
  have ua0 : 0 ≤ ua := by have := (half_bd a1).1; omega
  have ua1 : ua ≤ 64 := by have := (half_bd a1).2.1; omega
  have ub0 : 0 ≤ ub := by have := (half_bd b1).1; omega
  have ub1 : ub ≤ 64 := by have := (half_bd b1).2.1; omega
  rw [← hua, ← hub] at hne
  rw [← hua] at hha
  rw [← hub] at hhb
  obtain ⟨was, hwas⟩ : ∃ r, r = max (a - b) (b - a) := ⟨_, rfl⟩
  obtain ⟨is, his⟩ : ∃ r, r = max (ua - ub) (ub - ua) := ⟨_, rfl⟩
  rw [← hwas, ← his] at hne
  have HW1 : Hid (∀ w', Calls Try.prog 13 #[.int .i64 a, .int .i64 b] w' fun e w'' => e = .returned (.int .i64 was) ∧ w'' = w') := Lib.hid fun w' => far_any a b was w' (by omega) (by omega) (by omega) (by omega) hwas
  have HW2 : Hid (∀ w', Calls Try.prog 13 #[.int .i64 ua, .int .i64 ub] w' fun e w'' => e = .returned (.int .i64 is) ∧ w'' = w') := Lib.hid fun w' => far_any ua ub is w' (by omega) (by omega) (by omega) (by omega) his
  have hw0 : 0 ≤ was := by omega
  have hw1 : was ≤ 64 := by omega
  have HA1 := Lib.hid ha
  have HA2 := Lib.hid hha
  have HA3 := Lib.hid hb
  have HA4 := Lib.hid hhb
  have HNN := Lib.hid hN
  have HMM := Lib.hid hM
  clear ha hha hb hhb hua hub hwas his hN hM
  go_enter Try.func7, Try.ntmps7
  go_wp2_with (first
    | (go_at_call 10; (with_reducible refine (signals_80 A n c zs w HB.out HN.out h47).mono ?_); rintro e w1 ⟨A1, k1, c1, hm, rfl, ho1, hb1⟩; rw [← HS.out] at ho1; have HO1 := Lib.hid ho1; have HB1 := Lib.hid hb1; have HNK : Hid (k1 + 2 = N) := Lib.hid (by rw [hm, HNN.out]); clear ho1 hb1 hm)
    | (at_builtin; refine wpList_appL (F := sgS) rfl _ (.tmp 14) (.tmp 17) 22 rfl _ 16 Try.underlying22 sgInfo rfl w.heap.size A1 k1 c1 S rfl (HO1.out.below (ba1 _ _)) _ 2 2 [(1, 1), (2, 0)] rfl (ls_new _ _ _ _ rfl _ (by simp)) rfl N HNK.out (by omega) (by omega) (by have := HB1.out.size; simp; omega) ?_; intro A2 c2 w2 ho2 hb2 hs2; have HO2 := Lib.hid ho2; have HB2 : Hid (Below w.heap.size w w2) := Lib.hid ((HB1.out.alloc HB1.out.size _).trans hb2); clear ho2 hb2 hs2)
    | (go_at_call 11; (with_reducible refine (widths_ok A2 N c2 _ w2 HO2.out.ls HL1.out (by omega) HSO.out).mono ?_); rintro e w3 ⟨A3, c3, rfl, ho3, hb3⟩; have HO3 := Lib.hid ho3; have HB3 : Hid (Below w.heap.size w w3) := Lib.hid (bthen HB2.out hb3); clear ho3 hb3)
    | (go_at_call 10; (with_reducible refine (signals_80 A' n' c' zs' w3 (HB'.out.below HB3.out) HN'.out h47').mono ?_); rintro e w4 ⟨A4, k4, c4, hm, rfl, ho4, hb4⟩; rw [← HT.out] at ho4; have HO4 := Lib.hid ho4; have HB4 := Lib.hid hb4; have HMK : Hid (k4 + 2 = M) := Lib.hid (by rw [hm, HMM.out]); clear ho4 hb4 hm)
    | (at_builtin; refine wpList_appL (F := sgS) rfl _ (.tmp 24) (.tmp 27) 22 rfl _ 16 Try.underlying22 sgInfo rfl w3.heap.size A4 k4 c4 T rfl (HO4.out.below (ba1 _ _)) _ 2 2 [(1, 1), (2, 0)] rfl (ls_new _ _ _ _ rfl _ (by simp)) rfl M HMK.out (by omega) (by omega) (by have := HB4.out.size; simp; omega) ?_; intro A5 c5 w5 ho5 hb5 hs5; have HO5 := Lib.hid ho5; have HB5 : Hid (Below w3.heap.size w3 w5) := Lib.hid ((HB4.out.alloc HB4.out.size _).trans hb5); clear ho5 hb5 hs5)
    | (go_at_call 11; (with_reducible refine (widths_ok A5 M c5 _ w5 HO5.out.ls HL2.out (by omega) HTO.out).mono ?_); rintro e w6 ⟨A6, c6, rfl, ho6, hb6⟩; have HO6 := Lib.hid ho6; have HB6 : Hid (Below w3.heap.size w3 w6) := Lib.hid (bthen HB5.out hb6); have HO36 := Lib.hid (HO3.out.below HB6.out); (obtain ⟨x1, o1, rfl, -, g1⟩ := HO36.out.ls.at _ _ HA1.out); (obtain ⟨x1', o1', hx1, -, g2⟩ := HO36.out.ls.at _ _ HA2.out); (obtain ⟨x2, o2, rfl, -, g3⟩ := HO6.out.ls.at _ _ HA3.out); (obtain ⟨x2', o2', hx2, -, g4⟩ := HO6.out.ls.at _ _ HA4.out); (injection hx1 with hx1; injection hx1 with hx1 hy1; subst hx1; subst hy1; injection hx2 with hx2; injection hx2 with hx2 hy2; subst hx2; subst hy2); have e1 := g1 0 (.int .i64 a) rfl; have e2 := g2 0 (.int .i64 ua) rfl; have e3 := g3 0 (.int .i64 b) rfl; have e4 := g4 0 (.int .i64 ub) rfl; simp only [wdS, Nat.add_zero] at e1 e2 e3 e4; clear ho6 hb6 g1 g2 g3 g4))
  have hi1 : (N : Int) - 1 < (N : Int) := by omega
  have hi2 : (0 : Int) ≤ (N : Int) - 1 := by omega
  have hi3 : ((N : Int) - 1).toNat = N - 1 := by omega
  have hi4 : (N : Int) - 2 < (N : Int) := by omega
  have hi5 : (0 : Int) ≤ (N : Int) - 2 := by omega
  have hi6 : ((N : Int) - 2).toNat = N - 2 := by omega
  have hj1 : (M : Int) - 1 < (M : Int) := by omega
  have hj2 : (0 : Int) ≤ (M : Int) - 1 := by omega
  have hj3 : ((M : Int) - 1).toNat = M - 1 := by omega
  have hj4 : (M : Int) - 2 < (M : Int) := by omega
  have hj5 : (0 : Int) ≤ (M : Int) - 2 := by omega
  have hj6 : ((M : Int) - 2).toNat = M - 2 := by omega
  go_wp2_with fail
  go_quiet ((go_at_call 13; exact Calls.quiet_of_same (HW1.out _)))
  go_wp2_with fail
  obtain ⟨wd, hwd⟩ : ∃ wd, wd = World.drewN w6 nq := ⟨_, rfl⟩
  have HBD : Hid (Below w3.heap.size w3 wd) := Lib.hid (by rw [hwd]; exact below_drewN HB6.out _)
  have f2 : wd.cell? ⟨x1, o1 + (N - 1) * 3, none⟩ = some (.int .i64 ua) := by rw [hwd]; go_simp
  have f4 : wd.cell? ⟨x2, o2 + (M - 1) * 3, none⟩ = some (.int .i64 ub) := by rw [hwd]; go_simp
  rw [← hwd]
  clear hwd e1 e2 e3 e4 hi4 hi5 hi6 hj4 hj5 hj6
  go_quiet ((go_at_call 13; exact Calls.quiet_of_same (HW2.out _)))
  go_wp2
  go_ret
  exact ⟨rfl, below_drewN (bthen HB3.out HBD.out) _⟩

end Go.Proofs.Ytjaaijobdccclaa
