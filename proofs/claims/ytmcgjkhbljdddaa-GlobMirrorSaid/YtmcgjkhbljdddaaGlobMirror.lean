/-
  The walk of GlobMirror.
-/
import Derived.Test.YtmcgjkhbljdddaaGlobWords
namespace Go.Proofs.Ytmcgjkhbljdddaa
open Go.RowKit
set_option linter.unusedVariables false
set_option linter.unusedSimpArgs false

theorem mtK_rev (ks : List Nat) (s : Byt) : mtK ks.reverse s.reverse = mtK ks s := by
  rw [Bool.eq_iff_iff]
  unfold mtK
  rw [List.map_reverse, List.map_reverse]
  exact mt_reverse _ _
theorem pk_rev {l r : List Int} (h : r = (l.take 7).reverse) : pkG r 7 = (pkG l 7).reverse := by
  have hl : r.length ≤ 7 := by rw [h, List.length_reverse, List.length_take]; omega
  unfold pkG
  rw [List.take_of_length_le hl, h, List.map_reverse]
theorem rev_take {α : Type} {l : List α} {j m : Nat} {d : α} (hm : l.length = m) (hj : j < m) : l.reverse.take (j + 1) = l.reverse.take j ++ [l.getD (m - 1 - j) d] := by
  rw [List.take_add_one]
  congr 1
  rw [List.getElem?_reverse (by omega), List.getD_eq_getElem?_getD, hm, List.getElem?_eq_getElem (by omega)]
  rfl

set_option maxHeartbeats 4000000 in
theorem walkGlobMirror (A : Option Addr) (n c : Nat) (l : List Int) (C : Option Addr) (o e : Nat) (z : List Int) (w : World)
    (h1 : Is w A l) (h2 : l.length = n) (h3 : n ≤ c) (h4 : c ≤ 17592186043904) (f1 : Is w C z) (f2 : z.length = o) (f3 : o ≤ e) (f4 : e ≤ 17592186043904) :
    Calls Try.prog 9 #[.slice A n c, .slice C o e] w fun e w' => e = .returned (.bool true) ∧ Below w.heap.size w w' := by
  have HIS := Lib.hid h1
  have HN := Lib.hid h2
  have HP : Hid (∀ ww, Below w.heap.size w ww → Calls Try.prog 18 #[.slice A n c, .int .i64 7] ww fun e w' => e = .returned (.string (tx (patG l 7))) ∧ Below ww.heap.size ww w') := Lib.hid (fun ww h => pattern_any A n c l 7 ww (h1.below h) h2 (by omega))
  have HS := Lib.hid (short_any C o e z 14 w f1 f2 (by omega))
  have hs := sh_len z 14
  have hm1 : ∀ x : Byt, x.length ≤ 200 → matT (patG l 7) x = (mtK (pkG l 7) x, 0) := fun x hx => mat_words (pk_few l 7) (by have := pk_len l 7; omega) hx
  have hm2 : ∀ (r : List Int), r = (l.take 7).reverse → ∀ x : Byt, x.length ≤ 200 → matT (patG r 7) x.reverse = (mtK (pkG l 7) x, 0) := fun r hr x hx => by
    rw [show patG r 7 = wordsG (pkG r 7) from rfl, mat_words (pk_few r 7) (by have := pk_len r 7; omega) (by rw [List.length_reverse]; exact hx), pk_rev hr, mtK_rev]
  obtain ⟨S, hS⟩ : ∃ S, shG z 14 = S := ⟨_, rfl⟩
  obtain ⟨ks, hks⟩ : ∃ ks, pkG l 7 = ks := ⟨_, rfl⟩
  obtain ⟨P, hP⟩ : ∃ P, patG l 7 = P := ⟨_, rfl⟩
  obtain ⟨M, hM⟩ : ∃ M, (l.take 7).length = M := ⟨_, rfl⟩
  rw [hS] at HS hs
  rw [hks] at hm1 hm2
  rw [hP] at HP hm1
  have HM1 := Lib.hid hm1
  have HM2 := Lib.hid hm2
  have HML := Lib.hid hM
  have hMn : M = min n 7 := by rw [← hM, List.length_take, h2, Nat.min_comm]
  have hmin : min (n : Int) 7 = (M : Int) := by omega
  have hM7 : M ≤ 7 := by omega
  have hMln : M ≤ n := by omega
  have wM : IntKind.i64.wrap ((M : Int) - 1) = (M : Int) - 1 := by rw [IntKind.wrap_i64]; omega
  have HB0 : Hid (∀ x ∈ l, -9223372036854775808 ≤ x ∧ x ≤ 9223372036854775807) := Lib.hid h1.1
  have zs := tx_size S
  obtain ⟨sl, hsl⟩ : ∃ sl, S.length = sl := ⟨_, rfl⟩
  rw [hsl] at hs zs
  have HSL := Lib.hid hsl
  have wS : IntKind.i64.wrap ((sl : Int) - 1) = (sl : Int) - 1 := by rw [IntKind.wrap_i64]; omega
  clear hm1 hm2 hP hS hks hsl h1 h2 h3 h4 f1 f2 f3 f4 hM hMn
  go_enter Try.func9, Try.ntmps9
  go_wp2_with (go_at_call 19; refine HS.out.mono ?_; rintro e w1 ⟨rfl, hb1⟩; have HB1 := Lib.hid hb1; clear hb1)
  go_loopw [6, 7] (fun v i wr => ∃ (j : Nat) (D : Option Addr) (d : Nat), i = .int .i64 ((M : Int) - 1 - j) ∧ j ≤ M ∧ v = .slice D j d ∧ OwnI wr w1.heap.size D j d ((l.take 7).reverse.take j) ∧ Below w1.heap.size w1 wr) (fun _ i _ => (intOf i + 1).toNat)
  case atStart => exact ⟨0, none, 0, by simp, Nat.zero_le _, rfl, OwnI.nil _ _, Below.refl _ _⟩
  case round =>
    obtain ⟨j, D, d, rfl, hj, rfl, how, hbw⟩ := hrel
    have HOW := Lib.hid how
    have HBW := Lib.hid hbw
    clear how hbw
    by_cases hlt : j < M
    · have g0 : (0 : Int) ≤ (M : Int) - 1 - j := by omega
      obtain ⟨k, hk⟩ : ∃ k : Nat, (M : Int) - 1 - j = (k : Int) := ⟨M - 1 - j, by omega⟩
      have hkM : k = M - 1 - j := by omega
      have hkn : (k : Int) < (n : Int) := by omega
      have w1k : IntKind.i64.wrap ((k : Int) - 1) = (k : Int) - 1 := by rw [IntKind.wrap_i64]; omega
      have HT : Hid ((l.take 7).reverse.take (j + 1) = (l.take 7).reverse.take j ++ [l.getD k 0]) := Lib.hid (by
        rw [rev_take (d := 0) HML.out hlt, ← hkM]
        congr 2
        rw [List.getD_eq_getElem?_getD, List.getD_eq_getElem?_getD, List.getElem?_take, if_pos (by omega)])
      obtain ⟨b, o', rfl, hbl, hc, x0, x1⟩ := ((HIS.out.below HB1.out).below HBW.out).at k (l.getD k 0) (by rw [List.getD_eq_getElem?_getD, List.getElem?_eq_getElem (by rw [HN.out]; omega)]; rfl)
      obtain ⟨x, hx⟩ : ∃ x, l.getD k 0 = x := ⟨_, rfl⟩
      rw [hx] at hc x0 x1 HT
      rw [hk]
      have HK := Lib.hid hk
      have hk0 : (0 : Int) ≤ (k : Int) := by omega
      obtain ⟨F, hF⟩ : ∃ F, (l.take 7).reverse.take j = F := ⟨_, rfl⟩
      rw [hF] at HOW HT
      clear hx hF hk g0 hkM
      go_wp2_with (at_builtin; refine wpList_appI rfl _ (.tmp 20) (.tmp 25) rfl w1.heap.size D j d F rfl (HOW.out.below (ba1 _ _)) (some ⟨wr.heap.size, 0, none⟩) 1 1 [x] rfl (is_new wr _ _ _ (by simp; omega) rfl _ rfl) rfl (j + 1) rfl (by omega) (by have := HBW.out.size; simp; omega) ?_; intro A8 c8 w9 ho8 hb8 _; have HO8 := Lib.hid ho8; have HB9 : Hid (Below w1.heap.size w1 w9) := Lib.hid ((HBW.out.alloc HBW.out.size _).trans hb8); clear ho8 hb8)
      go_roundw
      case rel => exact ⟨j + 1, A8, c8, by have := HK.out; congr 1; simp; omega, by omega, rfl, by rw [HT.out]; exact HO8.out, HB9.out⟩
      case measure => first | (simp [intOf]; done) | (simp [intOf]; omega)
    · obtain ⟨wo, rfl⟩ : ∃ wo, wo = wr := ⟨_, rfl⟩
      have ej : (M : Int) - 1 - j = -1 := by omega
      obtain rfl : j = M := by omega
      rw [ej]
      have e2 : (l.take 7).reverse.take j = (l.take 7).reverse := List.take_of_length_le (by rw [List.length_reverse, HML.out]; exact Nat.le_refl _)
      obtain ⟨R, hR⟩ : ∃ R, R = (l.take 7).reverse := ⟨_, rfl⟩
      rw [e2, ← hR] at HOW
      have HM3 := Lib.hid (HM2.out R hR)
      have HRP : Hid (∀ ww, Below wo.heap.size wo ww → Calls Try.prog 18 #[.slice D j d, .int .i64 7] ww fun e w' => e = .returned (.string (tx (patG R 7))) ∧ Below ww.heap.size ww w') := Lib.hid (fun ww h => pattern_any D j d R 7 ww (HOW.out.is.below h) HOW.out.2.1 (by omega))
      have hpl := pat_len R 7
      obtain ⟨P2, hP2⟩ : ∃ P2, patG R 7 = P2 := ⟨_, rfl⟩
      rw [hP2] at HM3 HRP
      have HBC : Hid (Below w.heap.size w wo) := Lib.hid (bthen HB1.out HBW.out)
      clear hR e2 ej hP2 hpl
      go_wp2
      go_loopw [8, 9] (fun v i wx => ∃ (q : Nat), i = .int .i64 ((sl : Int) - 1 - q) ∧ q ≤ sl ∧ v = .string (tx (S.reverse.take q)) ∧ Below wo.heap.size wo wx) (fun _ i _ => (intOf i + 1).toNat)
      case atStart => exact ⟨0, by simp, Nat.zero_le _, rfl, Below.refl _ _⟩
      case round =>
        obtain ⟨q, rfl, hq, rfl, hbx⟩ := hrel
        have HBX := Lib.hid hbx
        clear hbx
        by_cases hlt2 : q < sl
        · obtain ⟨k, hk⟩ : ∃ k : Nat, (sl : Int) - 1 - q = (k : Int) := ⟨sl - 1 - q, by omega⟩
          have hkM : k = sl - 1 - q := by omega
          have w1k : IntKind.i64.wrap ((k : Int) - 1) = (k : Int) - 1 := by rw [IntKind.wrap_i64]; omega
          have w2k : IntKind.i64.wrap ((k : Int) + 1) = (k : Int) + 1 := by rw [IntKind.wrap_i64]; omega
          have HT : Hid (S.reverse.take (q + 1) = S.reverse.take q ++ [S.getD k 0]) := Lib.hid (by rw [rev_take (d := 0) HSL.out hlt2, ← hkM])
          have hxs : (tx S).extract k (k + 1) = tx [S.getD k 0] := tx_at S k (by rw [HSL.out]; omega)
          obtain ⟨x, hx⟩ : ∃ x, S.getD k 0 = x := ⟨_, rfl⟩
          rw [hx] at hxs HT
          rw [hk]
          have HK := Lib.hid hk
          have hk0 : (0 : Int) ≤ (k : Int) := by omega
          have hk1 : (k : Int) ≤ (k : Int) + 1 := by omega
          have hk2 : (k : Int) + 1 ≤ (sl : Int) := by omega
          have hFl : (S.reverse.take q).length ≤ 14 := by rw [List.length_take, List.length_reverse, HSL.out]; omega
          obtain ⟨F, hF⟩ : ∃ F, S.reverse.take q = F := ⟨_, rfl⟩
          rw [hF] at HT hFl ⊢
          have a1 : tx F ++ tx [x] = tx (F ++ [x]) := tx_app F [x]
          have zf := tx_size F
          have z1 : (tx [x]).size = 1 := tx_size _
          have q2 : ¬ 9223372036854775807 < F.length + 1 := by omega
          clear hx hF hk hkM
          go_wp2
          go_roundw
          case rel => exact ⟨q + 1, by have := HK.out; congr 1; simp; omega, by omega, by rw [HT.out], HBX.out⟩
          case measure => first | (simp [intOf]; done) | (simp [intOf]; omega)
        · have ej : (sl : Int) - 1 - q = -1 := by omega
          obtain rfl : q = sl := by omega
          rw [ej]
          have e2 : S.reverse.take q = S.reverse := List.take_of_length_le (by rw [List.length_reverse, HSL.out]; exact Nat.le_refl _)
          rw [e2]
          have HA : Hid (∀ ww, Calls Try.prog 20 #[.string ⟨#[97]⟩, .string ⟨#[97]⟩] ww fun e w' => e = .returned (.bool true) ∧ Below ww.heap.size ww w') := Lib.hid (fun ww => matK_any [97] [97] true ww matA)
          have HL := Lib.hid (fun ww => matK_any P S _ ww (HM1.out S (by rw [HSL.out]; omega)))
          have HR := Lib.hid (fun ww => matK_any P2 S.reverse _ ww (HM3.out S (by rw [HSL.out]; omega)))
          obtain ⟨v, hv⟩ : ∃ v, mtK ks S = v := ⟨_, rfl⟩
          rw [hv] at HL HR
          obtain ⟨T, hT⟩ : ∃ T, S.reverse = T := ⟨_, rfl⟩
          rw [hT] at HR ⊢
          clear hv hT e2 ej
          cases v <;>
          · go_wp2_with (first
              | (go_at_call 20; (with_reducible refine (HA.out _).mono ?_); rintro e w5 ⟨rfl, hb5⟩; have HB5 : Hid (Below wo.heap.size wo w5) := Lib.hid (bthen HBX.out hb5); clear hb5)
              | (go_at_call 18; (with_reducible refine (HP.out _ (bthen HBC.out HB5.out)).mono ?_); rintro e w6 ⟨rfl, hb6⟩; have HB6 : Hid (Below wo.heap.size wo w6) := Lib.hid (bthen HB5.out hb6); clear hb6)
              | (go_at_call 20; (with_reducible refine (HL.out _).mono ?_); rintro e w7 ⟨rfl, hb7⟩; have HB7 : Hid (Below wo.heap.size wo w7) := Lib.hid (bthen HB6.out hb7); clear hb7)
              | (go_at_call 18; (with_reducible refine (HRP.out _ HB7.out).mono ?_); rintro e w8 ⟨rfl, hb8⟩; have HB8 : Hid (Below wo.heap.size wo w8) := Lib.hid (bthen HB7.out hb8); clear hb8)
              | (go_at_call 20; (with_reducible refine (HR.out _).mono ?_); rintro e w9 ⟨rfl, hb9⟩; have HB9 : Hid (Below wo.heap.size wo w9) := Lib.hid (bthen HB8.out hb9); clear hb9))
            go_ret
            exact ⟨by first | rfl | simp, bthen HBC.out HB9.out⟩
end Go.Proofs.Ytmcgjkhbljdddaa
