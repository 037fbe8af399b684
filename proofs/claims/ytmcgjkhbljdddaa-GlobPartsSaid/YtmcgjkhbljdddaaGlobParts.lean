/-
  The walk of GlobParts.
-/
import Derived.Test.YtmcgjkhbljdddaaGlobWords
namespace Go.Proofs.Ytmcgjkhbljdddaa
open Go.RowKit
set_option linter.unusedVariables false
set_option linter.unusedSimpArgs false

/-- one of the ways in which a name may be cut, up to the m-th -/
def cutsG (ks qs : List Nat) (s : Byt) (m : Nat) : Bool := (List.range m).any fun i => mtK ks (s.take i) && mtK qs (s.drop i)
theorem cuts_succ (ks qs : List Nat) (s : Byt) (m : Nat) : cutsG ks qs s (m + 1) = (cutsG ks qs s m || (mtK ks (s.take m) && mtK qs (s.drop m))) := by
  simp [cutsG, List.range_succ, List.any_append]
theorem cuts_all (ks qs : List Nat) (s : Byt) : mtK (ks ++ qs) s = cutsG ks qs s (s.length + 1) := by
  rw [Bool.eq_iff_iff]
  unfold mtK cutsG
  rw [List.map_append, List.map_append, mt_app]
  simp only [List.any_eq_true, List.mem_range, Bool.and_eq_true]
  constructor
  · rintro ⟨i, h1, h2, h3⟩; exact ⟨i, by omega, h2, h3⟩
  · rintro ⟨i, h1, h2, h3⟩; exact ⟨i, by omega, h2, h3⟩

set_option maxHeartbeats 4000000 in
theorem walkGlobParts (A : Option Addr) (n c : Nat) (l : List Int) (B : Option Addr) (m d : Nat) (r : List Int) (C : Option Addr) (o e : Nat) (z : List Int) (w : World)
    (h1 : Is w A l) (h2 : l.length = n) (h3 : n ≤ c) (h4 : c ≤ 17592186043904) (g1 : Is w B r) (g2 : r.length = m) (g3 : m ≤ d) (g4 : d ≤ 17592186043904) (f1 : Is w C z) (f2 : z.length = o) (f3 : o ≤ e) (f4 : e ≤ 17592186043904) :
    Calls Try.prog 6 #[.slice A n c, .slice B m d, .slice C o e] w fun e w' => e = .returned (.bool true) ∧ Below w.heap.size w w' := by
  have HP := Lib.hid (pattern_any A n c l 4 w h1 h2 (by omega))
  have HQ := Lib.hid (fun ww (h : Below w.heap.size w ww) => pattern_any B m d r 4 ww (g1.below h) g2 (by omega))
  have HS := Lib.hid (fun ww (h : Below w.heap.size w ww) => short_any C o e z 12 ww (f1.below h) f2 (by omega))
  have hf1 := pk_few l 4
  have hf2 := pk_few r 4
  have hk1 := pk_len l 4
  have hk2 := pk_len r 4
  have hs := sh_len z 12
  have hp1 := pat_len l 4
  have hp2 := pat_len r 4
  have hpq : patG l 4 ++ patG r 4 = wordsG (pkG l 4 ++ pkG r 4) := by unfold patG; rw [words_app]
  have hm1 : ∀ x : Byt, x.length ≤ 200 → matT (patG l 4) x = (mtK (pkG l 4) x, 0) := fun x hx => mat_words hf1 (by omega) hx
  have hm2 : ∀ x : Byt, x.length ≤ 200 → matT (patG r 4) x = (mtK (pkG r 4) x, 0) := fun x hx => mat_words hf2 (by omega) hx
  have hm3 : ∀ x : Byt, x.length ≤ 200 → matT (patG l 4 ++ patG r 4) x = (mtK (pkG l 4 ++ pkG r 4) x, 0) := fun x hx => by
    rw [hpq]
    exact mat_words (fun k hk => (List.mem_append.1 hk).elim (hf1 k) (hf2 k)) (by rw [List.length_append]; omega) hx
  clear hf1 hf2 hk1 hk2 hpq h1 g1 f1
  obtain ⟨P, hP⟩ : ∃ P, patG l 4 = P := ⟨_, rfl⟩
  obtain ⟨R, hR⟩ : ∃ R, patG r 4 = R := ⟨_, rfl⟩
  obtain ⟨S, hS⟩ : ∃ S, shG z 12 = S := ⟨_, rfl⟩
  obtain ⟨ks, hks⟩ : ∃ ks, pkG l 4 = ks := ⟨_, rfl⟩
  obtain ⟨qs, hqs⟩ : ∃ qs, pkG r 4 = qs := ⟨_, rfl⟩
  rw [hP] at HP hp1 hm1
  rw [hR] at HQ hp2 hm2
  rw [hS] at HS hs
  rw [hP, hR] at hm3
  rw [hks] at hm1 hm3
  rw [hqs] at hm2 hm3
  have HM1 := Lib.hid hm1
  have HM2 := Lib.hid hm2
  have HM3 := Lib.hid hm3
  have zp := tx_size P
  have zr := tx_size R
  have zs := tx_size S
  obtain ⟨sl, hsl⟩ : ∃ sl, S.length = sl := ⟨_, rfl⟩
  rw [hsl] at hs zs
  have HSL := Lib.hid hsl
  clear hm1 hm2 hm3 hP hR hS hks hqs hsl h2 h3 h4 g2 g3 g4 f2 f3 f4
  go_enter Try.func6, Try.ntmps6
  go_upto_region 2 with (go_at_call 18; refine HP.out.mono ?_; rintro e w1 ⟨rfl, hb1⟩; have HB1 := Lib.hid hb1; clear hb1)
  go_upto_region 3 with (go_at_call 18; refine (HQ.out _ HB1.out).mono ?_; rintro e w2 ⟨rfl, hb2⟩; have HB2 := Lib.hid (bthen HB1.out hb2); clear hb2)
  go_wp2_with (go_at_call 19; refine (HS.out _ HB2.out).mono ?_; rintro e w3 ⟨rfl, hb3⟩; have HB3 := Lib.hid (bthen HB2.out hb3); clear hb3)
  go_loopw [10, 11] (fun v i wr => ∃ k : Nat, i = .int .i64 (k : Int) ∧ k ≤ sl + 1 ∧ v = .bool (cutsG ks qs S k) ∧ Below w.heap.size w wr) (fun _ i _ => sl + 1 - (intOf i).toNat)
  case atStart => exact ⟨0, rfl, Nat.zero_le _, rfl, HB3.out⟩
  case round =>
    obtain ⟨k, rfl, hk, rfl, hbw⟩ := hrel
    have HBW := Lib.hid hbw
    clear hbw
    by_cases hle : k ≤ sl
    · have hli : (k : Int) ≤ (sl : Int) := by omega
      have k0 : (0 : Int) ≤ (k : Int) := by omega
      have hx1 : (tx S).extract 0 k = tx (S.take k) := by rw [tx_cut]; simp
      have hx2 : (tx S).extract k sl = tx (S.drop k) := by rw [tx_cut, List.take_of_length_le (by rw [List.length_drop, HSL.out]; exact Nat.le_refl _)]
      have HC := Lib.hid (cuts_succ ks qs S k)
      have HT := Lib.hid (fun ww => matK_any P (S.take k) _ ww (HM1.out (S.take k) (by rw [List.length_take, HSL.out]; omega)))
      have HD := Lib.hid (fun ww => matK_any R (S.drop k) _ ww (HM2.out (S.drop k) (by rw [List.length_drop, HSL.out]; omega)))
      obtain ⟨v, hv⟩ : ∃ v, cutsG ks qs S k = v := ⟨_, rfl⟩
      obtain ⟨a, ha⟩ : ∃ a, mtK ks (S.take k) = a := ⟨_, rfl⟩
      obtain ⟨b, hb⟩ : ∃ b, mtK qs (S.drop k) = b := ⟨_, rfl⟩
      rw [hv, ha, hb] at HC
      rw [ha] at HT
      rw [hb] at HD
      rw [hv]
      obtain ⟨T, hT⟩ : ∃ T, S.take k = T := ⟨_, rfl⟩
      obtain ⟨D, hD⟩ : ∃ D, S.drop k = D := ⟨_, rfl⟩
      rw [hT] at HT hx1
      rw [hD] at HD hx2
      clear hv ha hb hT hD
      cases v
      · cases a
        · go_wp2_with (go_at_call 20; (with_reducible refine (HT.out _).mono ?_); rintro e w5 ⟨rfl, hb5⟩; have HB5 := Lib.hid (bthen HBW.out hb5); clear hb5)
          go_roundw
          case rel => exact ⟨k + 1, by simp, by omega, by rw [HC.out]; rfl, HB5.out⟩
          case measure => simp [intOf]; omega
        · cases b <;>
          · go_wp2_with (first
              | (go_at_call 20; (with_reducible refine (HT.out _).mono ?_); rintro e w5 ⟨rfl, hb5⟩; have HB5 := Lib.hid (bthen HBW.out hb5); clear hb5)
              | (go_at_call 20; (with_reducible refine (HD.out _).mono ?_); rintro e w6 ⟨rfl, hb6⟩; have HB6 := Lib.hid (bthen HB5.out hb6); clear hb6))
            go_roundw
            case rel => exact ⟨k + 1, by simp, by omega, by rw [HC.out]; rfl, HB6.out⟩
            case measure => simp [intOf]; omega
      · go_wp2_with fail
        go_roundw
        case rel => exact ⟨k + 1, by simp, by omega, by rw [HC.out]; rfl, HBW.out⟩
        case measure => simp [intOf]; omega
    · have hli : ¬ (k : Int) ≤ (sl : Int) := by omega
      have HE : Hid (mtK (ks ++ qs) S = cutsG ks qs S k) := Lib.hid (by rw [cuts_all, HSL.out, show sl + 1 = k from by omega])
      have HL := Lib.hid (fun ww => matK_any (P ++ R) S _ ww (HM3.out S (by rw [HSL.out]; omega)))
      have HA := Lib.hid (fun ww => matK_any [97] [97] true ww matA)
      rw [HE.out] at HL
      have a1 : tx P ++ tx R = tx (P ++ R) := tx_app P R
      have q2 : ¬ 9223372036854775807 < P.length + R.length := by omega
      obtain ⟨v, hv⟩ : ∃ v, cutsG ks qs S k = v := ⟨_, rfl⟩
      rw [hv] at HL ⊢
      clear hv HE
      have ha : (⟨#[97]⟩ : ByteArray) = tx [97] := rfl
      cases v <;>
      · go_wp2_with (first
          | (go_at_call 20; (with_reducible refine (HA.out _).mono ?_); rintro e w5 ⟨rfl, hb5⟩; have HB5 := Lib.hid (bthen HBW.out hb5); clear hb5)
          | (go_at_call 20; (with_reducible refine (HL.out _).mono ?_); rintro e w6 ⟨rfl, hb6⟩; have HB6 := Lib.hid (bthen HB5.out hb6); clear hb6))
        go_ret
        exact ⟨by first | rfl | simp, HB6.out⟩
end Go.Proofs.Ytmcgjkhbljdddaa
