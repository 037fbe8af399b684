/-
  The walk of CongGood.
-/
import Derived.Test.YtjaaijobdccclaaCongSig
namespace Go.Proofs.Ytjaaijobdccclaa
open Go.RowKit
set_option linter.unusedVariables false
set_option linter.unusedSimpArgs false

theorem plays_at (l : List Sig) (k : Nat) (g : Sig) (hg : l[k]? = some g) : (plays wd0 l)[k]? = some (sigStep (after wd0 (l.take k)) g) := by
  rw [plays_get wd0 l k (List.getElem?_eq_some_iff.1 hg).1, after_take wd0 l k g hg]

set_option maxRecDepth 100000 in
set_option maxHeartbeats 4000000 in
theorem walkCongGood (A : Option Addr) (n c : Nat) (zs : List Int) (w : World) (hb : Is w A zs) (hn : zs.length = n) (hc : n ≤ c) (hr : c ≤ 17592186043904) :
    Calls Try.prog 4 #[.slice A n c] w fun e w' => e = .returned (.bool true) ∧ Below w.heap.size w w' := by
  have HB := Lib.hid hb
  have HN := Lib.hid hn
  have h47 : n ≤ 17592186043904 := by omega
  clear hb hn
  obtain ⟨S, hS⟩ : ∃ S, S = sigs zs 200 := ⟨_, rfl⟩
  have HSO : Hid (∀ g ∈ S, sigCode g = 0) := Lib.hid (by rw [hS]; exact sigs_ok zs 200)
  have HSL : Hid (S.length = min 200 n) := Lib.hid (by rw [hS, sigs_len, HN.out])
  have HS := Lib.hid hS
  clear hS
  go_enter Try.func4, Try.ntmps4
  go_wp2_with (first
    | (go_at_call 10; (refine (signals_any A n c zs 200 _ HB.out HN.out (by omega) h47).mono ?_); rintro e w1 ⟨A1, m, c1, hm, rfl, ho1, hb1⟩; rw [← HS.out] at ho1; have HO1 := Lib.hid ho1; have HB1 := Lib.hid hb1; have HM := Lib.hid hm; have hm200 : m ≤ 200 := (by omega); clear ho1 hb1 hm)
    | (go_at_call 11; (with_reducible refine (widths_ok A1 m c1 S _ HO1.out.ls (by rw [HSL.out, HM.out]) (by omega) HSO.out).mono ?_); rintro e w2 ⟨A2, c2, rfl, ho2, hb2⟩; have HO2 := Lib.hid ho2; have HO12 := Lib.hid (HO1.out.below hb2); have HB2 : Hid (Below w.heap.size w w2) := Lib.hid (bthen HB1.out hb2); clear ho2 hb2)
    | (go_at_call 11; (refine (widths_ok _ 1 1 [(1, 2)] _ (ls_new w2 _ [(1, 2)] _ rfl _ (by simp)) rfl (by omega) (by decide)).mono ?_); rintro e w3 ⟨A3, c3, rfl, ho3, hb3⟩; have HO3 := Lib.hid ho3; have hb3' : Below w2.heap.size w2 w3 := bthen (ba1 _ _) hb3; have HO23 := Lib.hid (HO2.out.below hb3'); have HO13 := Lib.hid (HO12.out.below hb3'); have HB3 : Hid (Below w.heap.size w w3) := Lib.hid (bthen HB2.out hb3'); (obtain ⟨b1, o1, rfl, h10, h11⟩ := ho3.ls.at 0 ⟨3, 64, 0⟩ (by decide)); have e10 := h11 0 (.int .i64 3) rfl; simp only [Nat.zero_mul, Nat.add_zero] at e10; clear ho3 hb3 hb3' h11))
  have HSM : Hid (S.length = m) := Lib.hid (by rw [HSL.out, HM.out])
  clear HO1 HB1 HO2 HO12 HB2 HO3 h10 e10
  go_loopw [8, 9] (fun wa i wr => ∃ (k : Nat), k ≤ m ∧ i = .int .i64 k ∧ wa = .int .i64 (after wd0 (S.take k)).win ∧ Below w3.heap.size w3 wr) (fun _ i _ => m - (intOf i).toNat)
  case atStart => exact ⟨0, Nat.zero_le _, rfl, rfl, Below.refl _ _⟩
  case round =>
    obtain ⟨k, hk, rfl, rfl, hbw⟩ := hrel
    have HW := Lib.hid hbw
    by_cases hlt : k < m
    · obtain ⟨⟨g1, g2⟩, hg⟩ : ∃ g, S[k]? = some g := ⟨_, List.getElem?_eq_getElem (by rw [HSM.out]; exact hlt)⟩
      have hgd := after_good (S.take k) good0
      obtain ⟨wa, hwa⟩ : ∃ wa, wa = (after wd0 (S.take k)).win := ⟨_, rfl⟩
      have hsg := step_good hgd (g1, g2)
      have hpl := plays_at S k _ hg
      have hnx : after wd0 (S.take (k + 1)) = sigStep (after wd0 (S.take k)) (g1, g2) := after_take wd0 S k _ hg
      obtain ⟨⟨a, b, d⟩, hx⟩ : ∃ x, x = sigStep (after wd0 (S.take k)) (g1, g2) := ⟨_, rfl⟩
      rw [← hx] at hsg hpl hnx
      rw [← hwa] at hsg ⊢
      obtain ⟨⟨w0, w1', s0, s1, a0, a1⟩, hup, hdn⟩ := hsg
      simp only at w0 w1' s0 s1 a0 a1 hup hdn
      have HNX : Hid ((after wd0 (S.take (k + 1))).win = a) := Lib.hid (by rw [hnx])
      obtain ⟨b2, o2, rfl, h20, h21⟩ := (HO23.out.below hbw).ls.at k _ hpl
      obtain ⟨b3, o3, rfl, h30, h31⟩ := (HO13.out.below hbw).ls.at k _ hg
      have e20 := h21 0 (.int .i64 a) rfl
      have e21 := h21 1 (.int .i64 b) rfl
      have e22 := h21 2 (.int .i64 d) rfl
      have e30 := h31 0 (.int .i64 g1) rfl
      simp only [wdS, sgS, Nat.add_zero] at e20 e21 e22 e30
      have hki : (k : Int) < (m : Int) := by omega
      clear h21 h31 hx hpl hnx hgd hg hbw
      have hways : (g1 = 1 ∧ wa ≤ a) ∨ (g1 ≠ 1 ∧ wa ≤ 2 ∧ a ≤ 2) ∨ (g1 ≠ 1 ∧ 2 < wa ∧ a ≤ wa) := by
        by_cases h1 : g1 = 1
        · exact .inl ⟨h1, hup h1⟩
        · have := hdn h1; omega
      clear hup hdn
      have hmx : max a 1 = a := by omega
      rcases hways with ⟨rfl, hw1⟩ | ⟨hg1, hw1, hw2⟩ | ⟨hg1, hw1, hw2⟩
      all_goals
        go_wp2
        exact ⟨⟨k + 1, by omega, by go_num, by rw [HNX.out], HW.out.alloc HW.out.size _⟩, by simp [intOf]; omega⟩
    · go_wp2
      go_ret
      exact ⟨rfl, bthen HB3.out HW.out⟩

end Go.Proofs.Ytjaaijobdccclaa
