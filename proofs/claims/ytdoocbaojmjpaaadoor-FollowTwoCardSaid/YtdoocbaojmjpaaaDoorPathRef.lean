/-
  The document's pathFrom, PathClean, PathFollow.
-/
import Derived.Test.YtdoocbaojmjpaaaDoorNameMay
import Derived.Test.YtdoocbaojmjpaaaDoorRetN
namespace Go.Proofs.YtdoocbaojmjpaaaDoor
open Go.RowKit
set_option linter.unusedVariables false
set_option linter.unusedSimpArgs false

/-- how far the walk has come -/
def FrX (w : World) (r : Except Int (List Byt)) (p : Byt) (o s i : Value) (wr : World) : Prop :=
  ∃ (k n : Nat) (out : List Byt) (part : Byt) (A : Option Addr) (c : Nat), i = .int .i64 (k : Int) ∧ o = .slice A n c ∧ s = .string (tx part) ∧ n = out.length ∧ n ≤ 12 ∧ part.length ≤ k ∧ k ≤ p.length + 1 ∧ At r p k out part ∧ OwnL stS 9 wr w.heap.size A n c out ∧ Below w.heap.size w wr

set_option maxRecDepth 100000 in
set_option maxHeartbeats 2000000 in
theorem from_any (A : Option Addr) (n c : Nat) (l : List Byt) (p : Byt) (w : World) (hb : Ls stS w A l) (hn : l.length = n) (hm : n ≤ 12) :
    Calls Tryd.prog 19 #[.slice A n c, .string (tx p)] w (RetN w (pfrom l p)) := by
  have hsz := tx_size p
  obtain ⟨m, hm'⟩ : ∃ m, m = p.length := ⟨_, rfl⟩
  rw [← hm'] at hsz
  by_cases h : 200 < m
  · have hi : (200 : Int) < (m : Int) := by omega
    rw [pfrom_long (by rw [← hm']; exact h)]
    clear hb hn hm'
    go_enter Tryd.func19, Tryd.ntmps19
    go_wp2_with fail
    go_ret2
    exact RetN.err rfl (Below.refl _ _)
  · have hi : ¬ (200 : Int) < (m : Int) := by omega
    rw [pfrom_short (by rw [← hm']; exact h)]
    have HA := Lib.hid hb
    have HN := Lib.hid hn
    have HM := Lib.hid hm'
    have HST : Hid (At (pfold l (parts p)) p 0 l []) := Lib.hid (At.start l p)
    obtain ⟨r, hr⟩ : ∃ r, r = pfold l (parts p) := ⟨_, rfl⟩
    rw [← hr] at HST ⊢
    clear hb hn hm' hr
    go_enter Tryd.func19, Tryd.ntmps19
    go_wp2_with (at_builtin; refine wpList_appL (F := stS) rfl _ (.const (.slice none 0 0)) (.tmp 12) 22 rfl _ 16 Tryd.underlying22 stInfo rfl w.heap.size none 0 0 [] rfl (OwnL.nil _ _) A n c l rfl HA.out HN.out n (by omega) (by omega) (by omega) (Nat.le_refl _) ?_; intro A1 c1 w1 ho1 hb1 _; rw [List.nil_append] at ho1; have HO1 := Lib.hid ho1; have HB1 := Lib.hid hb1; clear ho1 hb1)
    go_loopw [6, 7, 8] (fun o s i wr => FrX w r p o s i wr) (fun _ _ i _ => m + 1 - (intOf i).toNat)
    case atStart => exact ⟨0, n, l, [], A1, c1, rfl, rfl, rfl, HN.out.symm, hm, Nat.zero_le _, by omega, HST.out, HO1.out, HB1.out⟩
    case round =>
      obtain ⟨k, q, out, part, A2, c2, rfl, rfl, rfl, hq, hq12, hpl, hk, hat, how, hbw⟩ := hrel
      rw [← HM.out] at hk
      have HQ := Lib.hid hq
      have HAT := Lib.hid hat
      have HOW := Lib.hid how
      have HBW := Lib.hid hbw
      clear hq hat how hbw
      have hps := tx_size part
      have hT := tx_toList part
      have hg := bn_get p
      by_cases hlt : k ≤ m
      · have hle : (k : Int) ≤ (m : Int) := by omega
        by_cases hmore : k < m ∧ p.getD k 0 ≠ 47
        · obtain ⟨h1, h2⟩ := hmore
          have h1i : (k : Int) < (m : Int) := by omega
          have h3 : (bn p k != 47) = true := by
            have : ¬ bn p k = 47 := fun e => h2 ((bn_eq p k 47).1 e)
            simpa using this
          have HN2 : Hid (At r p (k + 1) out (part ++ [p.getD k 0])) := Lib.hid (HAT.out.more (by rw [← HM.out]; exact h1) h2)
          obtain ⟨x, hx0⟩ : ∃ x, x = p.getD k 0 := ⟨_, rfl⟩
          have hx : (tx p).extract k (k + 1) = tx [x] := by rw [hx0]; exact tx_at p k (by rw [← HM.out]; exact h1)
          rw [← hx0] at HN2
          have hx2 : tx part ++ tx [x] = tx (part ++ [x]) := tx_app _ _
          have hx3 : (tx [x]).size = 1 := tx_size [x]
          have hx4 : ¬ 9223372036854775807 < part.length + 1 := by omega
          clear h2 hT hx0
          go_wp2_with fail
          go_roundw
          case rel => exact ⟨k + 1, q, out, part ++ [x], A2, c2, by simp, rfl, rfl, HQ.out, hq12, by simp; omega, by rw [← HM.out]; omega, HN2.out, HOW.out, HBW.out⟩
          case measure => simp [intOf]; omega
        · have hend : (k < m ∧ p.getD k 0 = 47) ∨ k = m := by
            by_cases g : k < m
            · left; exact ⟨g, by by_cases e : p.getD k 0 = 47; exact e; exact absurd ⟨g, e⟩ hmore⟩
            · right; omega
          have HS := Lib.hid (HAT.out.step (by rw [← HM.out]; exact hend))
          have hway : (((k : Int) < (m : Int)) ∧ (bn p k != 47) = false) ∨ ¬ (k : Int) < (m : Int) := by
            rcases hend with ⟨g, e⟩ | g
            · left; refine ⟨by omega, ?_⟩
              have := (bn_eq p k 47).2 e
              simpa using this
            · right; omega
          clear hmore hend
          have hnx : ∀ (o' : List Byt) (A3 : Option Addr) (n3 c3 : Nat) (w3 : World), pstep out part = .ok o' → n3 = o'.length → n3 ≤ 12 → OwnL stS 9 w3 w.heap.size A3 n3 c3 o' → Below w.heap.size w w3 → FrX w r p (.slice A3 n3 c3) (.string (tx [])) (.int .i64 ((k + 1 : Nat) : Int)) w3 := fun o' A3 n3 c3 w3 h1 h2 h3 h4 h5 =>
            ⟨k + 1, n3, o', [], A3, c3, rfl, rfl, rfl, h2, h3, by simp, by rw [← HM.out]; omega, HS.out.2 o' h1, h4, h5⟩
          have HNX := Lib.hid hnx
          clear hnx
          by_cases hup : part = [46, 46]
          · subst hup
            by_cases hq0 : 0 < q
            · have hq0i : (0 : Int) < (q : Int) := by omega
              have HR := Lib.hid (HNX.out out.dropLast A2 (q - 1) c2 wr (pstep_up out) (by rw [List.length_dropLast, ← HQ.out]) (by omega) (by
                have := HOW.out.cut (q - 1) (by omega)
                rw [List.dropLast_eq_take, ← HQ.out]; exact this) HBW.out)
              obtain ⟨b, hA2⟩ : ∃ b, A2 = some ⟨b, 0, none⟩ := by
                rcases HOW.out.addr with ⟨-, g, -⟩ | ⟨g, rfl, -⟩
                · omega
                · exact ⟨g, rfl⟩
              have hcap := HOW.out.cap
              subst hA2
              rcases hway with ⟨g1, g2⟩ | g1 <;>
              · go_wp2_with fail
                go_roundw
                case rel => exact HR.out
                case measure => simp [intOf]; omega
            · have hq0i : ¬ (0 : Int) < (q : Int) := by omega
              have ho : out = [] := List.eq_nil_of_length_eq_zero (by rw [← HQ.out]; omega)
              have HR := Lib.hid (HNX.out out.dropLast A2 q c2 wr (pstep_up out) (by rw [List.length_dropLast, ← HQ.out]; omega) (by omega) (by
                have := HOW.out
                rw [ho] at this ⊢; exact this) HBW.out)
              clear ho
              rcases hway with ⟨g1, g2⟩ | g1 <;>
              · go_wp2_with fail
                go_roundw
                case rel => exact HR.out
                case measure => simp [intOf]; omega
          · by_cases he : part = []
            · subst he
              have HR := Lib.hid (HNX.out out A2 q c2 wr (pstep_empty out) HQ.out hq12 HOW.out HBW.out)
              rcases hway with ⟨g1, g2⟩ | g1 <;>
              · go_wp2_with fail
                go_roundw
                case rel => exact HR.out
                case measure => simp [intOf]; omega
            · by_cases hd : part = [46]
              · subst hd
                have HR := Lib.hid (HNX.out out A2 q c2 wr (pstep_dot out) HQ.out hq12 HOW.out HBW.out)
                rcases hway with ⟨g1, g2⟩ | g1 <;>
                · go_wp2_with fail
                  go_roundw
                  case rel => exact HR.out
                  case measure => simp [intOf]; omega
              · have e1 : (part == [46, 46]) = false := by simpa using hup
                have e2 : part.isEmpty = false := by simpa using he
                have e3 : (part == [46]) = false := by simpa using hd
                have HC := Lib.hid (nameMay_any part wr)
                rcases hv : nameB part with _ | _
                · rw [hv] at HC
                  have HR : Hid (r = .error 4) := Lib.hid (HS.out.1 4 (pstep_odd hup he hd hv))
                  clear hv hup he hd
                  rcases hway with ⟨g1, g2⟩ | g1 <;>
                  · go_wp2_with (go_at_call 28; refine HC.out.mono ?_; rintro e w1 ⟨rfl, rfl⟩)
                    go_ret2
                    exact RetN.err HR.out HBW.out
                · rw [hv] at HC
                  by_cases hq9 : 12 ≤ q
                  · have hq9i : (12 : Int) ≤ (q : Int) := by omega
                    have HR : Hid (r = .error 9) := Lib.hid (HS.out.1 9 (pstep_full hup he hd hv (by rw [← HQ.out]; exact hq9)))
                    clear hv hup he hd
                    rcases hway with ⟨g1, g2⟩ | g1 <;>
                    · go_wp2_with (go_at_call 28; refine HC.out.mono ?_; rintro e w1 ⟨rfl, rfl⟩)
                      go_ret2
                      exact RetN.err HR.out HBW.out
                  · have hq9i : ¬ (12 : Int) ≤ (q : Int) := by omega
                    have HR : Hid (∀ A3 c3 w3, OwnL stS 9 w3 w.heap.size A3 (q + 1) c3 (out ++ [part]) → Below w.heap.size w w3 → FrX w r p (.slice A3 (q + 1) c3) (.string (tx [])) (.int .i64 ((k + 1 : Nat) : Int)) w3) := Lib.hid (fun A3 c3 w3 h1 h2 => HNX.out (out ++ [part]) A3 (q + 1) c3 w3 (pstep_name hv (by rw [← HQ.out]; omega)) (by rw [List.length_append, ← HQ.out]; rfl) (by omega) h1 h2)
                    clear hv hup he hd
                    rcases hway with ⟨g1, g2⟩ | g1 <;>
                    · go_wp2_with (first
                        | (go_at_call 28; refine HC.out.mono ?_; rintro e w1 ⟨rfl, rfl⟩)
                        | (at_builtin; refine wpList_appL (F := stS) rfl _ (.tmp 65) (.tmp 67) 22 rfl _ 16 Tryd.underlying22 stInfo rfl w.heap.size A2 q c2 out rfl (HOW.out.below (ba1 _ _)) (some ⟨w1.heap.size, 0, none⟩) 1 1 [part] rfl (ls_new w1 _ _ _ rfl _ rfl) rfl (q + 1) rfl (by omega) (by omega) (by have := HBW.out.size; simp; omega) ?_; intro A3 c3 w3 ho3 hb3 _; have HR3 := Lib.hid (HR.out A3 c3 w3 ho3 ((HBW.out.trans ((ba1 w1 _).mono HBW.out.size)).trans hb3)); clear ho3 hb3))
                      go_roundw
                      case rel => exact HR3.out
                      case measure => simp [intOf]; omega
      · have hle : ¬ (k : Int) ≤ (m : Int) := by omega
        have HR : Hid (r = .ok out) := Lib.hid (HAT.out.end (by rw [← HM.out]; omega))
        go_wp2_with fail
        go_ret2
        exact RetN.ok HR.out HBW.out HQ.out HOW.out

theorem pclean_any (p : Byt) (w : World) :
    Calls Tryd.prog 9 #[.string (tx p)] w (RetN w (pfrom [] p)) := by
  have HC := Lib.hid (from_any none 0 0 [] p w (Ls.nil _ _) rfl (by omega))
  obtain ⟨r, hr⟩ : ∃ r, pfrom [] p = r := ⟨_, rfl⟩
  rw [hr] at HC ⊢
  clear hr
  go_enter Tryd.func9, Tryd.ntmps9
  go_wp2_with (go_at_call 19; refine HC.out.mono ?_; intro e w1 h1; obtain ⟨hb1, ⟨c, rfl, rfl⟩ | ⟨l1, A1, c1, n1, rfl, hn1, rfl, ho1⟩⟩ := h1.is)
  · go_ret2
    exact RetN.err rfl hb1
  · go_ret2
    exact RetN.ok rfl hb1 (by first | exact hn1 | rfl) (by first | exact ho1 | (rw [← hn1]; exact ho1))

end Go.Proofs.YtdoocbaojmjpaaaDoor
