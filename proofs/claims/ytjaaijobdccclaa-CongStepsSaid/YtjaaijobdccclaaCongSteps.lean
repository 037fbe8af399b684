/-
  The walk of CongSteps.
-/
import Derived.Test.YtjaaijobdccclaaCongParts
import Derived.Deep.DeepCutAuto
import Derived.Laws.NewBlocks
namespace Go.Proofs.Ytjaaijobdccclaa
open Go.RowKit
set_option linter.unusedVariables false
set_option linter.unusedSimpArgs false

/-- behind a loss, and so many acks: the answer of region 9 -/
def StC (w2 : World) (M : Nat) (l : List Sig) (p e : Value) (wc : World) : Prop :=
  ∃ A c, p = .slice A M c ∧ e = .bool true ∧ OwnL wdS 28 wc w2.heap.size A M c (plays wd0 l) ∧ Below w2.heap.size w2 wc

theorem steps_math (S : List Sig) (hS : ∀ g ∈ S, sigCode g = 0) : ∃ h : Int, 2 ≤ h ∧ h ≤ 64 ∧ after wd0 (S ++ [(2, 0)]) = ⟨h, h, 0⟩ ∧ after wd0 (S ++ [(2, 0)] ++ [(1, h)]) = ⟨cap h, h, 0⟩ ∧ (after wd0 (S ++ [(2, 0)] ++ [(3, 0), (1, 1)])).win = 2 := by
  have hg := after_good S good0
  refine ⟨half (after wd0 S).win, (half_bd hg.w1).1, (half_bd hg.w1).2.1, ?_, ?_, ?_⟩
  · rw [after_app]; rfl
  · rw [after_app, after_app]
    show acks _ (lose (after wd0 S)) = _
    unfold lose
    exact round_all (Int.le_refl _) (by have := (half_bd hg.w1).1; omega)
  · rw [after_app, after_app]
    exact late_ack (lose_good hg).1

set_option maxRecDepth 100000 in
set_option maxHeartbeats 8000000 in
theorem walkCongSteps (A : Option Addr) (n c : Nat) (zs : List Int) (w : World) (hb : Is w A zs) (hn : zs.length = n) (hc : n ≤ c) (hr : c ≤ 17592186043904) :
    Calls Try.prog 6 #[.slice A n c] w fun e w' => e = .returned (.bool true) ∧ Below w.heap.size w w' := by
  have HB := Lib.hid hb
  have HN := Lib.hid hn
  have h47 : n ≤ 17592186043904 := by omega
  clear hb hn
  obtain ⟨S, hS⟩ : ∃ S, S = sigs zs 60 := ⟨_, rfl⟩
  have HSO : Hid (∀ g ∈ S, sigCode g = 0) := Lib.hid (by rw [hS]; exact sigs_ok zs 60)
  have HSL : Hid (S.length = min 60 n) := Lib.hid (by rw [hS, sigs_len, HN.out])
  have HS := Lib.hid hS
  clear hS
  obtain ⟨h, h2, h64, ha1, ha2, ha3⟩ := steps_math S HSO.out
  obtain ⟨S2, hS2⟩ : ∃ S2, S2 = S ++ [((2 : Int), (0 : Int))] := ⟨_, rfl⟩
  rw [← hS2] at ha1 ha2 ha3
  have HSO2 : Hid (∀ g ∈ S2, sigCode g = 0) := Lib.hid (by rw [hS2]; exact sig_all HSO.out (by decide))
  have HA2 := Lib.hid ha2
  have HA3 := Lib.hid ha3
  have HS2 := Lib.hid hS2
  have hSne : S2 ≠ [] := by rw [hS2]; simp
  have l1 := plays_last S2 hSne
  rw [ha1] at l1
  have L1 := Lib.hid l1
  clear ha1 ha2 ha3 hS2 hSne l1
  go_enter Try.func6, Try.ntmps6
  go_wp2_with (first
    | (go_at_call 10; (refine (signals_any A n c zs 60 _ HB.out HN.out (by omega) h47).mono ?_); rintro e w1 ⟨A1, m, c1, hm, rfl, ho1, hb1⟩; rw [← HS.out] at ho1; have HO1 := Lib.hid ho1; have HB1 := Lib.hid hb1; have HM := Lib.hid hm; have hm60 : m ≤ 60 := (by omega); obtain ⟨N, hNN⟩ : ∃ N, m + 1 = N := ⟨_, rfl⟩; have HNN := Lib.hid hNN; have hN1 : 1 ≤ N := (by omega); have hN61 : N ≤ 61 := (by omega); clear ho1 hb1 hm hNN)
    | (at_builtin; refine wpList_appL (F := sgS) rfl _ (.tmp 13) (.tmp 15) 22 rfl _ 16 Try.underlying22 sgInfo rfl w.heap.size A1 m c1 S rfl (HO1.out.below (ba1 _ _)) _ 1 1 [(2, 0)] rfl (ls_new _ _ _ _ rfl _ (by simp)) rfl N HNN.out (by omega) (by omega) (by have := HB1.out.size; simp; omega) ?_; intro A5 c5 w5 ho5 hb5 hs5; rw [← HS2.out] at ho5; have HO5 := Lib.hid ho5; have HB5 : Hid (Below w.heap.size w w5) := Lib.hid ((HB1.out.alloc HB1.out.size _).trans hb5); clear ho5 hb5 hs5; have HL5 : Hid (S2.length = N) := Lib.hid HO5.out.1; have hl1 := L1.out; rw [HL5.out] at hl1; have L2 := Lib.hid hl1; clear hl1)
    | (go_at_call 11; (with_reducible refine (widths_ok A5 N c5 S2 _ HO5.out.ls HL5.out (by omega) HSO2.out).mono ?_); rintro e w6 ⟨A6, c6, rfl, ho6, hb6⟩; have HO6 := Lib.hid ho6; have HO56 := Lib.hid (HO5.out.below hb6); have HB6 : Hid (Below w.heap.size w w6) := Lib.hid (bthen HB5.out hb6); (obtain ⟨p1, o1, rfl, h10, h11⟩ := ho6.ls.at _ _ L2.out); have e10 := h11 0 (.int .i64 h) rfl; have e11 := h11 1 (.int .i64 h) rfl; have e12 := h11 2 (.int .i64 0) rfl; simp only [wdS, Nat.add_zero] at e10 e11 e12; have hi1 : (N : Int) - 1 < (N : Int) := (by omega); have hi2 : (0 : Int) ≤ (N : Int) - 1 := (by omega); have hi5 : ((N : Int) - 1).toNat = N - 1 := (by omega); clear ho6 hb6 h11))
  obtain ⟨W2, hW2⟩ : ∃ W2, W2 = w6.alloc (.cells #[.int .i64 h, .int .i64 h, .int .i64 0] 28) := ⟨_, rfl⟩
  obtain ⟨B, hB⟩ : ∃ B, B = w6.heap.size := ⟨_, rfl⟩
  have HX : Hid (Bx 28 W2 B (i3 h h 0)) := Lib.hid (by rw [hW2, hB]; exact bx_new w6 _ _)
  have HO2 : Hid (OwnL sgS 35 W2 w.heap.size A5 N c5 S2) := Lib.hid (by rw [hW2]; exact HO56.out.below (ba1 _ _))
  have HB2 : Hid (Below w.heap.size w W2) := Lib.hid (by rw [hW2]; exact HB6.out.alloc HB6.out.size _)
  have HOF : Hid (Off B (.slice A5 N c5)) := Lib.hid (Off.over (fun k hk => (HO56.out.lt k hk).2) (by omega))
  rw [← hW2, ← hB]
  obtain ⟨lB, cB0, cB1, cB2, fB0, fB1, fB2⟩ := HX.out.cells3
  obtain ⟨M, hM⟩ : ∃ M, N + 1 = M := ⟨_, rfl⟩
  obtain ⟨M2, hM2⟩ : ∃ M2, N + 2 = M2 := ⟨_, rfl⟩
  have HM1 := Lib.hid hM
  have HM2 := Lib.hid hM2
  have m1 : 1 ≤ M := by omega
  have m2 : M ≤ 62 := by omega
  have m3 : 1 ≤ M2 := by omega
  have m4 : M2 ≤ 63 := by omega
  have HLQ : Hid ((S2 ++ [((1 : Int), h)]).length = M) := Lib.hid (by simp [HL5.out, hM])
  have HLR : Hid ((S2 ++ [((3 : Int), (0 : Int)), (1, 1)]).length = M2) := Lib.hid (by simp [HL5.out, hM2])
  have HGR : Hid (∀ g ∈ S2 ++ [((3 : Int), (0 : Int)), (1, 1)], sigCode g = 0) := Lib.hid (sig_all HSO2.out (by decide))
  clear hM hM2
  have HGQ : Hid (∀ g ∈ S2 ++ [((1 : Int), h)], sigCode g = 0) := Lib.hid (sig_all HSO2.out (sig_one (by omega) (by omega)))
  have HD1 : Hid (Below W2.heap.size W2 W2.drew) := Lib.hid (Below.refl _ _).drew
  have HD2 : Hid (Below W2.heap.size W2 ((W2.alloc (.cells #[.int .i64 1, .int .i64 h] 35)).drew)) := Lib.hid (ba1 _ _).drew
  have HN2 : Hid (Ls sgS ((W2.alloc (.cells #[.int .i64 1, .int .i64 h] 35)).drew) (some ⟨W2.heap.size, 0, none⟩) [(1, h)]) := Lib.hid ((ls_new W2 _ [(1, h)] _ rfl _ rfl).below (Below.refl _ _).drew)
  clear hW2 hB e10 e11 e12 h10 HO6 HO1 HB1 HB5 HB6 HO56
  go_cut [7, 8] (fun p e wc => StC W2 M (S2 ++ [(1, h)]) p e wc)
  case first =>
    go_region_law (first
      | (with_reducible refine step_appL (F := sgS) rfl W2.drew (.const (.slice none 0 0)) (.tmp 36) 22 rfl _ 16 Try.underlying22 sgInfo rfl W2.heap.size none 0 0 [] (by first | rfl | simp [Act.eval, Act.put]) (OwnL.nil _ _) A5 N c5 S2 (by first | rfl | simp [Act.eval, Act.put]) (HO2.out.below HD1.out).ls HL5.out N (by omega) (by omega) (by omega) (Nat.le_refl _) ?_; intro A7 c7 w7 ho7 hb7 hs7; rw [List.nil_append] at ho7; have HO7 := Lib.hid ho7; have HB7 := Lib.hid (HD1.out.trans hb7); clear ho7 hb7 hs7; obtain ⟨lC, cC0, cC1, cC2, fC0, fC1, fC2⟩ := (HX.out.below HB7.out).cells3)
      | (with_reducible refine step_appL (F := sgS) rfl ((W2.alloc (.cells #[.int .i64 1, .int .i64 h] 35)).drew) (.const (.slice none 0 0)) (.tmp 36) 22 rfl _ 16 Try.underlying22 sgInfo rfl ((W2.alloc (.cells #[.int .i64 1, .int .i64 h] 35)).drew.heap.size) none 0 0 [] (by first | rfl | simp [Act.eval, Act.put]) (OwnL.nil _ _) A5 N c5 S2 (by first | rfl | simp [Act.eval, Act.put]) (HO2.out.below HD2.out).ls HL5.out N (by omega) (by omega) (by omega) (Nat.le_refl _) ?_; intro A8 c8 w8 ho8 hb8 hs8; rw [List.nil_append] at ho8; have HO8 := Lib.hid ho8; have HB8 := Lib.hid (bthen HD2.out hb8); have HL8 := Lib.hid (HN2.out.below hb8); have HZ8 := Lib.hid hb8.size; clear ho8 hb8 hs8; obtain ⟨lC, cC0, cC1, cC2, fC0, fC1, fC2⟩ := (HX.out.below HB8.out).cells3)
      | (with_reducible refine step_appL (F := sgS) rfl (w7.alloc (.cells #[.int .i64 1, .int .i64 h] 35)) (.tmp 37) (.tmp 41) 22 rfl _ 16 Try.underlying22 sgInfo rfl W2.heap.size A7 N c7 S2 (by first | rfl | simp [Act.eval, Act.put]) (HO7.out.below (ba1 _ _)) (some ⟨w7.heap.size, 0, none⟩) 1 1 [(1, h)] (by first | rfl | simp [Act.eval, Act.put]) (ls_new _ _ _ _ rfl _ rfl) rfl M HM1.out (by omega) (by omega) (by have := HB7.out.size; simp; omega) ?_; intro A9 c9 w9 ho9 hb9 hs9; have HO9 := Lib.hid ho9; have HB9 := Lib.hid ((HB7.out.alloc HB7.out.size _).trans hb9); clear ho9 hb9 hs9)
      | (with_reducible refine step_appL (F := sgS) rfl w8 (.tmp 37) (.tmp 41) 22 rfl _ 16 Try.underlying22 sgInfo rfl ((W2.alloc (.cells #[.int .i64 1, .int .i64 h] 35)).drew.heap.size) A8 N c8 S2 (by first | rfl | simp [Act.eval, Act.put]) HO8.out (some ⟨W2.heap.size, 0, none⟩) 1 1 [(1, h)] (by first | rfl | simp [Act.eval, Act.put]) HL8.out rfl M HM1.out (by omega) (by omega) HZ8.out ?_; intro A9 c9 w9 ho9 hb9 hs9; have HO9 := Lib.hid ho9; have HB9 := Lib.hid (HB8.out.trans (hb9.mono (by simp))); clear ho9 hb9 hs9)
      | (go_simp; go_at_call 11; (with_reducible refine (widths_ok A9 M c9 (S2 ++ [(1, h)]) _ HO9.out.ls HLQ.out (by omega) HGQ.out).mono ?_); rintro e w10 ⟨A10, c10, rfl, ho10, hb10⟩; have HO10 := Lib.hid ho10; have HB10 := Lib.hid (HB9.out.trans (hb10.mono HB9.out.size)); clear ho10 hb10))
    all_goals
      go_wp2_with fail
      go_meet
      unfold StC
      exact ⟨A10, c10, rfl, rfl, HO10.out.base HB9.out.size, HB10.out⟩
  case rest =>
    obtain ⟨A10, c10, rfl, rfl, hoc, hbc⟩ := hcut
    have HO10 := Lib.hid hoc
    have HBC := Lib.hid hbc
    have HO2c := Lib.hid (HO2.out.below hbc)
    have HXc := Lib.hid (HX.out.below hbc)
    have HBW := Lib.hid (HB2.out.trans (hbc.mono HB2.out.size))
    have HAP : Hid (Apart (.slice A10 M c10) (.slice A5 N c5)) := Lib.hid (fun j k hj hk e => by have h1 := (hoc.lt j hj).1; have h2 := (HO2.out.lt k hk).2; omega)
    have hcap : (h + 1 ≤ 64 ∧ cap h = h + 1) ∨ (h = 64 ∧ cap h = 64) := by unfold cap; split <;> omega
    obtain ⟨u, hu⟩ : ∃ u, u = cap h := ⟨_, rfl⟩
    have hA2 := HA2.out
    rw [← hu] at hcap hA2
    obtain ⟨⟨q0, q1, q2⟩, hq⟩ : ∃ z, z = after wd0 (S2 ++ [((3 : Int), (0 : Int)), (1, 1)]) := ⟨_, rfl⟩
    have hq0 : q0 = 2 := by have := HA3.out; rw [← hq] at this; exact this
    subst hq0
    have l3 := plays_last (S2 ++ [((1 : Int), h)]) (by simp)
    have l4 := plays_last (S2 ++ [((3 : Int), (0 : Int)), (1, 1)]) (by simp)
    rw [hA2, HLQ.out] at l3
    rw [← hq, HLR.out] at l4
    have L3 := Lib.hid l3
    have L4 := Lib.hid l4
    have hj1 : (M : Int) - 1 < (M : Int) := by omega
    have hj2 : (0 : Int) ≤ (M : Int) - 1 := by omega
    have hj3 : ((M : Int) - 1).toNat = M - 1 := by omega
    have hj4 : (M2 : Int) - 1 < (M2 : Int) := by omega
    have hj5 : (0 : Int) ≤ (M2 : Int) - 1 := by omega
    have hj6 : ((M2 : Int) - 1).toNat = M2 - 1 := by omega
    clear hoc hbc hu hA2 hq l3 l4 lB cB0 cB1 cB2 fB0 fB1 fB2
    rcases hcap with ⟨hk, rfl⟩ | ⟨rfl, rfl⟩
    all_goals
      go_wp2_with (first
        | (at_builtin; refine wpList_appL (F := sgS) rfl _ (.tmp 46) (.tmp 49) 22 rfl _ 16 Try.underlying22 sgInfo rfl w.heap.size A5 N c5 S2 rfl (HO2c.out.below (ba1 _ _)) _ 2 2 [(3, 0), (1, 1)] rfl (ls_new _ _ _ _ rfl _ (by simp)) rfl M2 HM2.out (by omega) (by omega) (by have := HBW.out.size; simp; omega) ?_; intro A11 c11 w11 ho11 hb11 hs11; have HO11 := Lib.hid ho11; have HB11 : Hid (Below w.heap.size w w11) := Lib.hid ((HBW.out.alloc HBW.out.size _).trans hb11); have HO10b := Lib.hid ((HO10.out.below (ba1 _ _)).beside hs11 HAP.out); have HX11 := Lib.hid ((HXc.out.below (ba1 _ _)).beside hs11 HOF.out); clear ho11 hb11 hs11)
        | (go_at_call 11; (with_reducible refine (widths_ok A11 M2 c11 _ _ HO11.out.ls HLR.out (by omega) HGR.out).mono ?_); rintro e w12 ⟨A12, c12, rfl, ho12, hb12⟩; have HO12 := Lib.hid ho12; have HO10c := Lib.hid (HO10b.out.below hb12); have HX12 := Lib.hid (HX11.out.below hb12); have HB12 : Hid (Below w.heap.size w w12) := Lib.hid (bthen HB11.out hb12); clear ho12 hb12))
      obtain ⟨lB, cB0, cB1, cB2, -, -, -⟩ := HX12.out.cells3
      obtain ⟨p2, o2, rfl, h20, h21⟩ := HO10c.out.ls.at _ _ L3.out
      obtain ⟨p3, o3, rfl, h30, h31⟩ := HO12.out.ls.at _ _ L4.out
      have e20 := h21 0 _ rfl
      have e22 := h21 2 (.int .i64 0) rfl
      have e30 := h31 0 (.int .i64 2) rfl
      simp only [wdS, Nat.add_zero] at e20 e22 e30
      clear h21 h31
      go_wp2_with fail
      go_quiet (fail)
      go_wp2
      go_ret
      exact ⟨rfl, below_drewN HB12.out _⟩

end Go.Proofs.Ytjaaijobdccclaa
