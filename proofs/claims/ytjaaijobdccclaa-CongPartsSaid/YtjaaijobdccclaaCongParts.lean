/-
  The walk of CongParts.
-/
import Derived.Test.YtjaaijobdccclaaCongGood
namespace Go.Proofs.Ytjaaijobdccclaa
open Go.RowKit
set_option linter.unusedVariables false
set_option linter.unusedSimpArgs false

theorem plays_last (l : List Sig) (h : l ≠ []) : (plays wd0 l)[l.length - 1]? = some (after wd0 l) := by
  have h0 : 0 < l.length := List.length_pos_iff.2 h
  rw [plays_get wd0 l (l.length - 1) (by omega), show l.length - 1 + 1 = l.length by omega, List.take_of_length_le (Nat.le_refl _)]
theorem sig_all {l m : List Sig} (h : ∀ g ∈ l, sigCode g = 0) (h2 : ∀ g ∈ m, sigCode g = 0) : ∀ g ∈ l ++ m, sigCode g = 0 := fun g hg => by
  rcases List.mem_append.1 hg with h3 | h3
  · exact h g h3
  · exact h2 g h3
theorem sig_one {k : Int} (h0 : 1 ≤ k) (h1 : k ≤ 64) : ∀ g ∈ [((1 : Int), k)], sigCode g = 0 := fun g hg => by
  simp at hg; subst hg; unfold sigCode; simp only; rw [if_neg (by omega), if_neg (by omega)]

set_option maxRecDepth 100000 in
set_option maxHeartbeats 4000000 in
theorem walkCongParts (A : Option Addr) (n c : Nat) (zs : List Int) (a : Int) (w : World) (hb : Is w A zs) (hn : zs.length = n) (hc : n ≤ c) (hr : c ≤ 17592186043904) (a0 : -9223372036854775808 ≤ a) (a1 : a ≤ 9223372036854775807) :
    Calls Try.prog 5 #[.slice A n c, .int .i64 a] w fun e w' => e = .returned (.bool true) ∧ Below w.heap.size w w' := by
  have HB := Lib.hid hb
  have HN := Lib.hid hn
  have h47 : n ≤ 17592186043904 := by omega
  clear hb hn
  obtain ⟨S, hS⟩ : ∃ S, S = sigs zs 60 := ⟨_, rfl⟩
  have HSO : Hid (∀ g ∈ S, sigCode g = 0) := Lib.hid (by rw [hS]; exact sigs_ok zs 60)
  have HSL : Hid (S.length = min 60 n) := Lib.hid (by rw [hS, sigs_len, HN.out])
  have HS := Lib.hid hS
  obtain ⟨y, hy⟩ : ∃ y, y = a % 64 := ⟨_, rfl⟩
  have hy0 : 0 ≤ y := by omega
  have hy1 : y < 64 := by omega
  have HY := Lib.hid hy
  obtain ⟨K, hK⟩ : ∃ K : Nat, (K : Int) = 1 + y := ⟨(1 + y).toNat, by omega⟩
  have HK := Lib.hid hK
  clear hS hy hK
  go_enter Try.func5, Try.ntmps5
  go_wp2_with (first
    | (go_at_call 10; (refine (signals_any A n c zs 60 _ HB.out HN.out (by omega) h47).mono ?_); rintro e w1 ⟨A1, m, c1, hm, rfl, ho1, hb1⟩; rw [← HS.out] at ho1; have HO1 := Lib.hid ho1; have HB1 := Lib.hid hb1; have HM := Lib.hid hm; have hm60 : m ≤ 60 := (by omega); clear ho1 hb1 hm)
    | (go_at_call 12; (refine (picked_v a 64 y _ HY a0 a1 (by omega) (by omega)).mono ?_); rintro e w3 ⟨rfl, rfl⟩)
    | (at_builtin; refine wpList_appL (F := sgS) rfl _ (.const (.slice none 0 0)) (.tmp 18) 22 rfl _ 16 Try.underlying22 sgInfo rfl w1.heap.size none 0 0 [] rfl (OwnL.nil _ _) A1 m c1 S rfl HO1.out.ls (by rw [HSL.out, HM.out]) m (by omega) (by omega) (by omega) (Nat.le_refl _) ?_; intro A5 c5 w5 ho5 hb5 hs5; have HO5 := Lib.hid ho5; have HB5 := Lib.hid hb5; clear ho5 hb5 hs5))
  have HSM : Hid (S.length = m) := Lib.hid (by rw [HSL.out, HM.out])
  go_loopw [7, 8] (fun o i wr => ∃ (j : Nat) (A3 : Option Addr) (c3 : Nat), j ≤ K ∧ i = .int .i64 j ∧ o = .slice A3 (m + j) c3 ∧ OwnL sgS 35 wr w1.heap.size A3 (m + j) c3 (S ++ List.replicate j (1, 1)) ∧ Below w1.heap.size w1 wr) (fun _ i _ => K - (intOf i).toNat)
  case atStart => exact ⟨0, A5, c5, Nat.zero_le _, rfl, rfl, by simpa using HO5.out, HB5.out⟩
  case round =>
    obtain ⟨j, A3, c3, hj, rfl, rfl, ho, hbw⟩ := hrel
    have HO := Lib.hid ho; have HW := Lib.hid hbw
    have hKy := HK.out
    clear ho hbw HO5 HB5
    by_cases hlt : j < K
    · have hji : (j : Int) < 1 + y := by omega
      clear hKy
      go_wp2_with (at_builtin; refine wpList_appL (F := sgS) rfl _ (.tmp 25) (.tmp 27) 22 rfl _ 16 Try.underlying22 sgInfo rfl w1.heap.size A3 (m + j) c3 _ rfl (HO.out.below (ba1 _ _)) _ 1 1 [(1, 1)] rfl (ls_new _ _ _ _ rfl _ (by simp)) rfl (m + j + 1) rfl (by omega) (by omega) (by have := HW.out.size; simp; omega) ?_; intro A5 c5 w5 ho5 hb5 hs5; have HO5 := Lib.hid ho5; have HB5 := Lib.hid ((HW.out.alloc HW.out.size _).trans hb5); clear ho5 hb5 hs5)
      refine ⟨⟨j + 1, A5, c5, by omega, by go_num, by rw [Nat.add_assoc], ?_, HB5.out⟩, by simp [intOf]; omega⟩
      have := HO5.out
      rw [List.append_assoc, ← List.replicate_succ'] at this
      exact this
    · obtain rfl : K = j := by omega
      have hji : ¬ (K : Int) < 1 + y := by omega
      have HS1 := Lib.hid (HO1.out.below (HW.out))
      obtain ⟨N1, hN1⟩ : ∃ N1, m + 1 = N1 := ⟨_, rfl⟩
      obtain ⟨N2, hN2⟩ : ∃ N2, N2 = m + K := ⟨_, rfl⟩
      have ho := HO.out
      rw [← hN2] at ho ⊢
      have HO := Lib.hid ho
      have HN1 := Lib.hid hN1
      have HN2 := Lib.hid hN2
      have b1 : 1 ≤ N1 ∧ N1 ≤ 61 := by omega
      have b2 : 1 ≤ N2 ∧ N2 ≤ 124 := by omega
      obtain ⟨b11, b12⟩ := b1
      obtain ⟨b21, b22⟩ := b2
      have HL1 : Hid ((S ++ [((1 : Int), 1 + y)]).length = N1) := Lib.hid (by simp [HSM.out, hN1])
      have HL2 : Hid ((S ++ List.replicate K ((1 : Int), (1 : Int))).length = N2) := Lib.hid (by simp [HSM.out, hN2])
      have HG1 : Hid (∀ g ∈ S ++ [((1 : Int), 1 + y)], sigCode g = 0) := Lib.hid (sig_all HSO.out (sig_one (by omega) (by omega)))
      have HG2 : Hid (∀ g ∈ S ++ List.replicate K ((1 : Int), (1 : Int)), sigCode g = 0) := Lib.hid (sig_all HSO.out (fun g hg => by rw [(List.mem_replicate.1 hg).2]; decide))
      obtain ⟨⟨p, q, r⟩, hz⟩ : ∃ z, z = after wd0 (S ++ [((1 : Int), 1 + y)]) := ⟨_, rfl⟩
      have hz2 : after wd0 (S ++ List.replicate K ((1 : Int), (1 : Int))) = ⟨p, q, r⟩ := by
        rw [hz, after_app, after_app, ones_after]
        show acks K _ = acks (1 + y).toNat _
        rw [show (1 + y).toNat = K by omega]
      have l1 := plays_last (S ++ [((1 : Int), 1 + y)]) (by simp)
      have l2 := plays_last (S ++ List.replicate K ((1 : Int), (1 : Int))) (by intro h; have := congrArg List.length h; simp at this; omega)
      rw [← hz, HL1.out] at l1
      rw [hz2, HL2.out] at l2
      have L1 := Lib.hid l1
      have L2 := Lib.hid l2
      clear ho hN1 hN2 hz hz2 l1 l2 hKy
      go_wp2_with (first
        | (at_builtin; refine wpList_appL (F := sgS) rfl _ (.const (.slice none 0 0)) (.tmp 30) 22 rfl _ 16 Try.underlying22 sgInfo rfl wr.heap.size none 0 0 [] rfl (OwnL.nil _ _) A1 m c1 S rfl HS1.out.ls HSM.out m (by omega) (by omega) (by omega) (Nat.le_refl _) ?_; intro A6 c6 w6 ho6 hb6 hs6; have HO6 := Lib.hid ho6; have HB6 := Lib.hid hb6; clear ho6 hb6 hs6)
        | (at_builtin; refine wpList_appL (F := sgS) rfl _ (.tmp 31) (.tmp 34) 22 rfl _ 16 Try.underlying22 sgInfo rfl wr.heap.size A6 m c6 S rfl (HO6.out.below (ba1 _ _)) _ 1 1 [(1, 1 + y)] rfl (ls_new _ _ _ _ rfl _ (by simp)) rfl N1 HN1.out (by omega) (by omega) (by have := HB6.out.size; simp; omega) ?_; intro A7 c7 w7 ho7 hb7 hs7; have HO7 := Lib.hid ho7; have HB7 : Hid (Below wr.heap.size wr w7) := Lib.hid ((HB6.out.alloc HB6.out.size _).trans hb7); clear ho7 hb7 hs7)
        | (go_at_call 11; (with_reducible refine (widths_ok A7 N1 c7 _ _ HO7.out.ls HL1.out (by omega) HG1.out).mono ?_); rintro e w8 ⟨A8, c8, rfl, ho8, hb8⟩; have HO8 := Lib.hid ho8; have HB8 : Hid (Below wr.heap.size wr w8) := Lib.hid (bthen HB7.out hb8); clear ho8 hb8)
        | (go_at_call 11; (with_reducible refine (widths_ok A3 N2 c3 _ _ (HO.out.below HB8.out).ls HL2.out (by omega) HG2.out).mono ?_); rintro e w9 ⟨A9, c9, rfl, ho9, hb9⟩; have HO9 := Lib.hid ho9; have HO89 := Lib.hid (HO8.out.below hb9); have HB9 : Hid (Below wr.heap.size wr w9) := Lib.hid (bthen HB8.out hb9); clear ho9 hb9))
      obtain ⟨p1, o1, rfl, h10, h11⟩ := HO89.out.ls.at _ _ L1.out
      obtain ⟨p2, o2, rfl, h20, h21⟩ := HO9.out.ls.at _ _ L2.out
      have e10 := h11 0 (.int .i64 p) rfl
      have e11 := h11 1 (.int .i64 q) rfl
      have e12 := h11 2 (.int .i64 r) rfl
      have e20 := h21 0 (.int .i64 p) rfl
      have e21 := h21 1 (.int .i64 q) rfl
      have e22 := h21 2 (.int .i64 r) rfl
      simp only [wdS, Nat.add_zero] at e10 e11 e12 e20 e21 e22
      have hi1 : (N1 : Int) - 1 < (N1 : Int) := by omega
      have hi2 : (0 : Int) ≤ (N1 : Int) - 1 := by omega
      have hi3 : (N2 : Int) - 1 < (N2 : Int) := by omega
      have hi4 : (0 : Int) ≤ (N2 : Int) - 1 := by omega
      have hi5 : ((N1 : Int) - 1).toNat = N1 - 1 := by omega
      have hi6 : ((N2 : Int) - 1).toNat = N2 - 1 := by omega
      clear h11 h21
      go_wp2_with fail
      go_quiet (fail)
      go_wp2
      go_ret
      exact ⟨rfl, below_drewN (bthen HB1.out (HW.out.trans (HB9.out.mono HW.out.size))) _⟩

end Go.Proofs.Ytjaaijobdccclaa
