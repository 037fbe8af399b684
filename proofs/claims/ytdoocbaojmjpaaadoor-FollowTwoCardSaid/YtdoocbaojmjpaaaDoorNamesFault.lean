/-
  The document's namesFault.
-/
import Derived.Test.YtdoocbaojmjpaaaDoorNameMay
import Derived.Test.YtdoocbaojmjpaaaDoorOff
namespace Go.Proofs.YtdoocbaojmjpaaaDoor
open Go.RowKit
set_option linter.unusedVariables false
set_option linter.unusedSimpArgs false

def AllN (l : List Byt) : Prop := l.all nameB = true
theorem allN_succ {l : List Byt} {k : Nat} (h : AllN (l.take k)) (hk : k < l.length) (hx : nameB (l.getD k []) = true) : AllN (l.take (k + 1)) := by
  unfold AllN at h ⊢
  rw [List.take_add_one, List.getElem?_eq_getElem hk, List.all_append, h]
  rw [List.getD_eq_getElem?_getD, List.getElem?_eq_getElem hk] at hx
  simpa using hx
theorem nfault_four {l : List Byt} {k : Nat} (h : ¬ 12 < l.length) (hk : k < l.length) (hx : nameB (l.getD k []) = false) : nfault l = 4 := by
  unfold nfault
  rw [if_neg h, if_neg]
  intro g
  have := List.all_eq_true.1 g _ (getD_mem hk)
  rw [hx] at this; cases this
theorem nfault_none {l : List Byt} {k : Nat} (h : ¬ 12 < l.length) (hk : l.length ≤ k) (hx : AllN (l.take k)) : nfault l = 0 := by
  unfold nfault
  rw [List.take_of_length_le hk] at hx
  rw [if_neg h, if_pos (show l.all nameB = true from hx)]

theorem fault_any (A : Option Addr) (n c : Nat) (l : List Byt) (w : World) (hb : Ls stS w A l) (hn : l.length = n) :
    Calls Tryd.prog 22 #[.slice A n c] w fun e w' => e = .returned (.int .i64 (nfault l)) ∧ w' = w := by
  by_cases h : 12 < n
  · have h1 : (12 : Int) < (n : Int) := by omega
    rw [show nfault l = 9 by unfold nfault; rw [if_pos (by omega)]]
    clear hb hn
    go_enter Tryd.func22, Tryd.ntmps22
    go_wp2_with fail
    go_ret
    exact ⟨rfl, rfl⟩
  · have h1 : ¬ (12 : Int) < (n : Int) := by omega
    have HA := Lib.hid hb
    have HN := Lib.hid hn
    obtain ⟨v, hv⟩ : ∃ v, v = nfault l := ⟨_, rfl⟩
    rw [← hv]
    have HV := Lib.hid hv
    clear hb hn hv
    go_enter Tryd.func22, Tryd.ntmps22
    go_wp2_with fail
    go_loop [10] (fun i => ∃ k : Nat, i = .int .i64 (k : Int) ∧ k ≤ n ∧ AllN (l.take k)) (fun i => n - (intOf i).toNat)
    case atStart => exact ⟨0, rfl, Nat.zero_le _, rfl⟩
    case round =>
      obtain ⟨k, rfl, hk, hall⟩ := hrel
      have HALL := Lib.hid hall
      clear hall
      by_cases hlt : k < n
      · have hlti : (k : Int) < (n : Int) := by omega
        obtain ⟨b, o, rfl, hbl, hc⟩ := HA.out.text k (by rw [HN.out]; exact hlt)
        have HS : Hid (nameB (l.getD k []) = true → AllN (l.take (k + 1))) := Lib.hid (fun h => allN_succ HALL.out (by rw [HN.out]; exact hlt) h)
        have HF : Hid (nameB (l.getD k []) = false → v = 4) := Lib.hid (fun g => by rw [HV.out]; exact nfault_four (k := k) (by rw [HN.out]; exact h) (by rw [HN.out]; exact hlt) g)
        obtain ⟨x, hx⟩ : ∃ x, l.getD k [] = x := ⟨_, rfl⟩
        rw [hx] at hc HS HF
        have HC := Lib.hid (nameMay_any x w)
        obtain ⟨u, hu⟩ : ∃ u, nameB x = u := ⟨_, rfl⟩
        rw [hu] at HC HS HF
        clear hx hu
        cases u
        · go_wp2_with (go_at_call 28; refine HC.out.mono ?_; rintro e w1 ⟨rfl, rfl⟩)
          go_ret
          exact ⟨by rw [HF.out (by first | rfl | trivial)]; rfl, rfl⟩
        · go_wp2_with (go_at_call 28; refine HC.out.mono ?_; rintro e w1 ⟨rfl, rfl⟩)
          go_round
          case rel => exact ⟨k + 1, by simp, by omega, HS.out (by first | rfl | trivial)⟩
          case measure => simp [intOf]; omega
      · have hlti : ¬ (k : Int) < (n : Int) := by omega
        have HE : Hid (v = 0) := Lib.hid (by rw [HV.out]; exact nfault_none (by rw [HN.out]; exact h) (by rw [HN.out]; omega) HALL.out)
        go_wp2_with fail
        go_ret
        exact ⟨by rw [HE.out]; rfl, rfl⟩

end Go.Proofs.YtdoocbaojmjpaaaDoor
