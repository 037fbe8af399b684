/-
  The walk of FollowTwo.
-/
import Derived.Test.YtdoocbaojmjpaaaDoorPathKeep
namespace Go.Proofs.YtdoocbaojmjpaaaDoor
open Go.RowKit
set_option linter.unusedVariables false
set_option linter.unusedSimpArgs false

theorem joinP_cut (l : List Byt) : (joinP l).drop (min 1 (joinP l).length) = (joinP l).drop 1 := by
  rcases l with _ | ⟨x, r⟩
  · rfl
  · rw [Nat.min_eq_left (by simp [joinP])]

set_option maxRecDepth 100000 in
set_option maxHeartbeats 4000000 in
theorem walkFollowTwo (L : Option Addr) (u d : Nat) (l : List Int) (M : Option Addr) (v e : Nat) (m : List Int) (w : World) (hb : Is w L l) (hn : l.length = u) (hc : u ≤ d) (hr : d ≤ 17592186043904) (hb' : Is w M m) (hn' : m.length = v) (hc' : v ≤ e) (hr' : e ≤ 17592186043904) :
    Calls Tryd.prog 6 #[.slice L u d, .slice M v e] w fun e w' => e = .returned (.bool true) ∧ Below w.heap.size w w' := by
  have HP := Lib.hid (pathOf_k L u d l 5 5 w hb hn (by omega) rfl)
  have HQ := Lib.hid (fun wx (h : Below w.heap.size w wx) => pathOf_k M v e m 5 5 wx (hb'.below h) hn' (by omega) rfl)
  obtain ⟨a, h1, hca, hal, h200⟩ := clean_drawn (drawns_tame l 5) (Nat.le_trans (drawns_len l 5) (by omega))
  have hal5 : a.length ≤ 5 := Nat.le_trans hal (drawns_len l 5)
  obtain ⟨b, f1, f2, f3, f4⟩ := follow_drawn (drawns_tame l 5) (drawns_tame m 5) (drawns_len l 5) (drawns_len m 5) h1 hal5
  have hpl := joinF_len _ (drawns_tame l 5)
  have hql := joinF_len _ (drawns_tame m 5)
  have hd1 := drawns_len l 5
  have hd2 := drawns_len m 5
  have hcut := joinP_cut (drawns m 5)
  obtain ⟨P, hP⟩ : ∃ P, joinP (drawns l 5) = P := ⟨_, rfl⟩
  obtain ⟨Q, hQ⟩ : ∃ Q, joinP (drawns m 5) = Q := ⟨_, rfl⟩
  rw [hP] at HP h1 f3 f4 hpl
  rw [hQ] at HQ f1 f3 f4 hql hcut
  obtain ⟨n, hN⟩ : ∃ n, a.length = n := ⟨_, rfl⟩
  obtain ⟨k, hK⟩ : ∃ k, b.length = k := ⟨_, rfl⟩
  have HN := Lib.hid hN
  have HK := Lib.hid hK
  have hn12 : n ≤ 12 := by omega
  have hk12 : k ≤ 12 := by omega
  have HC1 := Lib.hid (fun wx => clean_at P a n wx h1 HN)
  have HF := Lib.hid (fun A c wx base (ho : OwnL stS 9 wx base A n c a) => follow_at A n c a (Q.drop 1) b k wx ho.ls HN.out f1 HK)
  have HJ := Lib.hid (fun A c wx base (ho : OwnL stS 9 wx base A n c a) => joined_any A n c a wx ho.ls HN.out ho.cap hca h200)
  have hqz := tx_size Q
  have hpz := tx_size P
  have hp1z := tx_size (P ++ [47])
  obtain ⟨ql, hqle⟩ : ∃ ql, Q.length = ql := ⟨_, rfl⟩
  have hx1 : ∀ i : Nat, i = min 1 ql → (tx Q).extract i ql = tx (Q.drop 1) := by
    intro i hi
    rw [tx_cut, hi, ← hqle, hcut, List.take_of_length_le]
    have := congrArg List.length hcut
    simp only [List.length_drop] at this ⊢
    omega
  have hx2 : tx P ++ (⟨#[47]⟩ : ByteArray) = tx (P ++ [47]) := tx_app P [47]
  have hx3 : tx (P ++ [47]) ++ tx Q = tx (P ++ 47 :: Q) := by rw [tx_app]; simp
  rw [hqle] at hqz hql
  have g1 : ¬ 9223372036854775807 < P.length + 1 := by omega
  have g2 : ¬ 9223372036854775807 < P.length + 1 + ql := by omega
  rw [List.length_append, List.length_singleton] at hp1z
  by_cases hh : (Q.drop 1).head? = some 47
  · obtain ⟨e1, cc, e2, e3⟩ := f3 hh
    obtain ⟨y, hY⟩ : ∃ y, cc.length = y := ⟨_, rfl⟩
    have HY := Lib.hid hY
    have HA := Lib.hid (fun wx => clean_at (P ++ 47 :: Q) cc y wx e2 HY)
    have HD := Lib.hid (fun wx => clean_at (Q.drop 1) b k wx e1 HK)
    have hq2 : 2 ≤ ql := by
      rcases Q with _ | ⟨q0, _ | ⟨q1, t⟩⟩
      · simp at hh
      · simp at hh
      · simp at hqle; omega
    have hqi : (1 : Int) < (ql : Int) := by omega
    have hq1 : bn Q 1 = 47 := by
      rcases Q with _ | ⟨q0, _ | ⟨q1, t⟩⟩
      · simp at hh
      · simp at hh
      · exact (bn_eq _ 1 47).2 (by simpa using hh)
    have hgq := bn_get Q
    have hmn : min (1 : Int) (ql : Int) = 1 := by omega
    have hxx := hx1 1 (by omega)
    obtain ⟨R, hR⟩ : ∃ R, Q.drop 1 = R := ⟨_, rfl⟩
    rw [hR] at HF HD hxx
    rw [hR] at hx1 f1 f3 f4 e1 hcut hh
    clear hb hn hb' hn' hca h200 f1 f2 f3 f4 h1 hcut hP hQ hal hal5 hd1 hd2 hN hK hY e1 e2 hx1 hqle hpl hql hh hR
    go_enter Tryd.func6, Tryd.ntmps6
    go_wp2_with (first
      | (go_at_call 13; (with_reducible refine HP.out.mono ?_); rintro e w1 ⟨rfl, hb1⟩; have HB1 := Lib.hid hb1; clear hb1)
      | (go_at_call 13; (with_reducible refine (HQ.out w1 HB1.out).mono ?_); rintro e w2 ⟨rfl, hb2⟩; have HB2 := Lib.hid (bthen HB1.out hb2); clear hb2)
      | (go_at_call 8; (with_reducible refine (HC1.out w2).mono ?_); rintro e w3 ⟨A3, c3, rfl, ho3, hb3⟩; have HO3 := Lib.hid ho3; have HB3 := Lib.hid (bthen HB2.out hb3); clear ho3 hb3)
      | (go_at_call 11; (with_reducible refine (HF.out A3 c3 w3 _ HO3.out).mono ?_); rintro e w4 ⟨A4, c4, rfl, ho4, hb4⟩; have HO4 := Lib.hid ho4; have HB4 := Lib.hid (bthen HB3.out hb4); have HO34 := Lib.hid (HO3.out.below hb4); clear ho4 hb4)
      | (go_at_call 8; (with_reducible refine (HA.out w4).mono ?_); rintro e w5 ⟨A5, c5, rfl, ho5, hb5⟩; have HO35 := Lib.hid (HO34.out.below hb5); have HO45 := Lib.hid (HO4.out.below hb5); have HO5 := Lib.hid ho5; have HB5 := Lib.hid (bthen HB4.out hb5); clear ho5 hb5)
      | (go_at_call 16; (with_reducible refine (HJ.out A3 c3 w5 _ HO35.out).mono ?_); rintro e w6 ⟨rfl, hb6⟩; have HB6 := Lib.hid (bthen HB5.out hb6); have HO46 := Lib.hid (HO45.out.below hb6); clear hb6)
      | (go_at_call 8; (with_reducible refine (HD.out w6).mono ?_); rintro e w7 ⟨A7, c7, rfl, ho7, hb7⟩; have HO47 := Lib.hid (HO46.out.below hb7); have HO7 := Lib.hid ho7; have HB7 := Lib.hid (bthen HB6.out hb7); clear ho7 hb7)
      | (go_at_call 15; (with_reducible refine (texts_keep A4 k c4 A7 c7 b w7 HO47.out.ls HO7.out.ls HK.out (by omega)).mono ?_); rintro e w8 ⟨rfl, hb8⟩; have HB8 := Lib.hid (bthen HB7.out hb8); clear hb8))
    go_ret
    exact ⟨rfl, HB8.out⟩
  · have HA := Lib.hid (fun wx => clean_at (P ++ 47 :: Q) b k wx (f4 hh) HK)
    have hgq := bn_get Q
    have hway : ∃ i : Nat, i = min 1 ql ∧ min (1 : Int) (ql : Int) = (i : Int) ∧ i ≤ ql ∧ (¬ (1 : Int) < (ql : Int) ∨ ((1 : Int) < (ql : Int) ∧ (bn Q 1 == 47) = false)) := by
      by_cases h2 : 1 < ql
      · refine ⟨1, by omega, by omega, by omega, .inr ⟨by omega, ?_⟩⟩
        have : ¬ bn Q 1 = 47 := fun e => hh (by
          have := (bn_eq Q 1 47).1 e
          rcases Q with _ | ⟨q0, _ | ⟨q1, t⟩⟩
          · simp at hqle; omega
          · simp at hqle; omega
          · simpa using this)
        simpa using this
      · exact ⟨min 1 ql, rfl, by omega, by omega, .inl (by omega)⟩
    obtain ⟨i, hi1, hmn, hil, hway⟩ := hway
    have hxx := hx1 i hi1
    have hil' : (i : Int) ≤ (ql : Int) := by omega
    obtain ⟨R, hR⟩ : ∃ R, Q.drop 1 = R := ⟨_, rfl⟩
    rw [hR] at HF hxx
    clear hb hn hb' hn' hca h200 f1 f2 f3 f4 h1 hcut hP hQ hal hal5 hd1 hd2 hN hK hx1 hqle hpl hql hh hR hi1
    rcases hway with hw1 | ⟨hw1, hw2⟩ <;>
    · go_enter Tryd.func6, Tryd.ntmps6
      go_wp2_with (first
        | (go_at_call 13; (with_reducible refine HP.out.mono ?_); rintro e w1 ⟨rfl, hb1⟩; have HB1 := Lib.hid hb1; clear hb1)
        | (go_at_call 13; (with_reducible refine (HQ.out w1 HB1.out).mono ?_); rintro e w2 ⟨rfl, hb2⟩; have HB2 := Lib.hid (bthen HB1.out hb2); clear hb2)
        | (go_at_call 8; (with_reducible refine (HC1.out w2).mono ?_); rintro e w3 ⟨A3, c3, rfl, ho3, hb3⟩; have HO3 := Lib.hid ho3; have HB3 := Lib.hid (bthen HB2.out hb3); clear ho3 hb3)
        | (go_at_call 11; (with_reducible refine (HF.out A3 c3 w3 _ HO3.out).mono ?_); rintro e w4 ⟨A4, c4, rfl, ho4, hb4⟩; have HO4 := Lib.hid ho4; have HB4 := Lib.hid (bthen HB3.out hb4); have HO34 := Lib.hid (HO3.out.below hb4); clear ho4 hb4)
        | (go_at_call 8; (with_reducible refine (HA.out w4).mono ?_); rintro e w5 ⟨A5, c5, rfl, ho5, hb5⟩; have HO35 := Lib.hid (HO34.out.below hb5); have HO45 := Lib.hid (HO4.out.below hb5); have HO5 := Lib.hid ho5; have HB5 := Lib.hid (bthen HB4.out hb5); clear ho5 hb5)
        | (go_at_call 16; (with_reducible refine (HJ.out A3 c3 w5 _ HO35.out).mono ?_); rintro e w6 ⟨rfl, hb6⟩; have HB6 := Lib.hid (bthen HB5.out hb6); have HO46 := Lib.hid (HO45.out.below hb6); have HO56 := Lib.hid (HO5.out.below hb6); clear hb6)
        | (go_at_call 15; (with_reducible refine (texts_keep A4 k c4 A5 c5 b w6 HO46.out.ls HO56.out.ls HK.out (by omega)).mono ?_); rintro e w8 ⟨rfl, hb8⟩; have HB8 := Lib.hid (bthen HB6.out hb8); clear hb8))
      go_ret
      exact ⟨rfl, HB8.out⟩

end Go.Proofs.YtdoocbaojmjpaaaDoor
