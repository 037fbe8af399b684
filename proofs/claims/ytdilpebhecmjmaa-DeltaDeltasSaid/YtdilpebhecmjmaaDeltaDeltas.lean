/-
  The walk of DeltaDeltas.
-/
import Derived.Test.YtdilpebhecmjmaaDelRefD
import Derived.Test.YtdilpebhecmjmaaSamePc
namespace Go.Proofs.Ytdilpebhecmjmaa
open Go.RowKit
set_option linter.unusedVariables false
set_option linter.unusedSimpArgs false

set_option maxRecDepth 100000 in
set_option maxHeartbeats 8000000 in
theorem walkDeltaDeltas (A : Option Addr) (n c : Nat) (old : List Int) (B : Option Addr) (m d : Nat) (now : List Int) (w : World)
    (ha : Ls byS w A old) (hn : old.length = n) (hc : n ≤ c) (hc47 : c ≤ 140737488351232) (hz : ∀ z ∈ old, 0 ≤ z ∧ z ≤ 255)
    (hB : Ls byS w B now) (hm : now.length = m) (hd : m ≤ d) (hd47 : d ≤ 140737488351232) (hzn : ∀ z ∈ now, 0 ≤ z ∧ z ≤ 255) :
    Calls Try.prog 3 #[.slice A n c, .slice B m d] w fun e w' => e = .returned (.bool true) ∧ Below w.heap.size w w' := by
  have HA := Lib.hid ha
  have HN := Lib.hid hn
  have HB := Lib.hid hB
  have HM := Lib.hid hm
  have HZ := Lib.hid hz
  have HZN := Lib.hid hzn
  clear ha hn hB hm hz hzn
  by_cases hbad : 2048 < n ∨ 2048 < m
  · have HP := Lib.hid (fun w => delta_size A n c B m d w hbad)
    have HF := Lib.hid (fun w => refD_size A n c B m d w hbad)
    clear hbad
    go_enter Try.func3, Try.ntmps3
    go_wp2_with (first
      | (go_at_call 8; (refine (HP.out w).mono ?_); rintro e w1 ⟨rfl, hb1⟩; have HB1 := Lib.hid hb1; clear hb1)
      | (go_at_call 9; (refine (HF.out w1).mono ?_); rintro e w2 ⟨rfl, hb2⟩; have HB2 := Lib.hid (bthen HB1.out hb2); clear hb2)
      | (go_at_call 10; (refine (pieces_law none 0 0 none 0 [] [] w2 (Ls.nil _ _) (Ls.nil _ _) rfl rfl (fun x hx => by simp at hx) (fun x hx => by simp at hx) (by omega)).mono ?_); rintro e w3 ⟨rfl, hb3⟩; have HB3 := Lib.hid (bthen HB2.out hb3); clear hb3))
    go_ret
    exact ⟨rfl, HB3.out⟩
  · have g1 : n ≤ 2048 := by omega
    have g2 : m ≤ 2048 := by omega
    obtain ⟨ps, hps⟩ : ∃ ps, ps = deltaT old now := ⟨_, rfl⟩
    have HP : Hid (∀ w', Below w.heap.size w w' → Calls Try.prog 8 #[.slice A n c, .slice B m d] w' (RetDl w' ps)) := Lib.hid fun w' hb => by
      rw [hps]; exact delta_ok A n c B m d old now w' (HA.out.below hb) HN.out hc HZ.out (HB.out.below hb) HM.out hd HZN.out g1 g2
    have HF : Hid (∀ w', Below w.heap.size w w' → Calls Try.prog 9 #[.slice A n c, .slice B m d] w' (RetDl w' ps)) := Lib.hid fun w' hb => by
      rw [hps]; exact refD_ok A n c B m d old now w' (HA.out.below hb) HN.out (HB.out.below hb) HM.out g1 g2
    have HT : Hid (∀ p ∈ ps, p.data.length ≤ 2048) := Lib.hid fun p hp => by
      rw [hps] at hp
      have := (delta_tidy old now (by rw [HN.out]; exact g1) p hp).2.2.2.2
      rw [HM.out] at this; omega
    have HPL : Hid (ps.length ≤ 2048) := Lib.hid (by rw [hps]; exact (delta_back old now (by rw [HN.out]; exact g1) (by rw [HM.out]; exact g2)).2.1)
    clear hbad hps
    have HIN : Hid (∀ (w' : World) (base : Nat) (A' : Option Addr) (k c' : Nat) (l' : List Pv), PL w' base A' k c' l' → l'.map Pv.p = ps → PIn w' l') := Lib.hid (by
      intro w' base A' k c' l' h e
      refine h.pin fun x hx => ?_
      have h5 := h.len x hx
      have h6 := HT.out x.p (by rw [← e]; exact List.mem_map_of_mem hx)
      omega)
    go_enter Try.func3, Try.ntmps3
    go_wp2_with (first
      | (go_at_call 8; (refine (HP.out w (Below.refl _ _)).mono ?_); rintro e w1 ⟨A1, q1, c1, l1, rfl, hp1, hm1, hb1⟩; have HP1 := Lib.hid hp1; have HM1 := Lib.hid hm1; have HB1 := Lib.hid hb1; clear hp1 hm1 hb1)
      | (go_at_call 9; (refine (HF.out w1 HB1.out).mono ?_); rintro e w2 ⟨A2, q2, c2, l2, rfl, hp2, hm2, hb2⟩; obtain rfl : q1 = q2 := (by rw [← HP1.out.row.1, ← hp2.row.1, ← List.length_map (f := Pv.p), HM1.out, ← hm2, List.length_map]); have HP2 := Lib.hid hp2; have HM2 := Lib.hid hm2; have HB2 := Lib.hid (bthen HB1.out hb2); have HP1b := Lib.hid (HP1.out.below hb2); clear hp2 hm2 hb2)
      | (go_at_call 10; (refine (pieces_law A1 q1 c1 A2 c2 l1 l2 w2 HP1b.out.row.ls HP2.out.row.ls HP1b.out.row.1 (HM1.out.trans HM2.out.symm) (HIN.out _ _ _ _ _ _ HP1b.out HM1.out) (HIN.out _ _ _ _ _ _ HP2.out HM2.out) (by have h1 := HP1b.out.row.1; have h2 := HPL.out; rw [← HM1.out, List.length_map] at h2; omega)).mono ?_); rintro e w3 ⟨rfl, hb3⟩; have HB3 := Lib.hid (bthen HB2.out hb3); clear hb3))
    go_ret
    exact ⟨rfl, HB3.out⟩

end Go.Proofs.Ytdilpebhecmjmaa
