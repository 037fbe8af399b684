/-
  packthreadkeep.sameTexts of two lists that are the same.
-/
import Derived.Test.YtmcgjkhbljdddaaText
import Derived.Test.YtmcgjkhbljdddaaKit
import Derived.Test.YtmcgjkhbljdddaaTool
namespace Go.Proofs.Ytmcgjkhbljdddaa
open Go.RowKit
set_option linter.unusedVariables false
set_option linter.unusedSimpArgs false

set_option maxHeartbeats 1000000 in
theorem texts_keep (A : Option Addr) (n c : Nat) (B : Option Addr) (d : Nat) (l : List Byt) (w : World) (ha : Ls stS w A l) (hb : Ls stS w B l) (hn : l.length = n) (hm : n ≤ 1000000) :
    Calls Try.prog 21 #[.slice A n c, .slice B n d] w fun e w' => e = .returned (.bool true) ∧ Below w.heap.size w w' := by
  have HA := Lib.hid ha
  have HB := Lib.hid hb
  have HN := Lib.hid hn
  have hne : ((n : Int) != (n : Int)) = false := by simp
  clear ha hb hn
  go_enter Try.func21, Try.ntmps21
  go_wp2
  go_loopw [5] (fun i wr => ∃ k : Nat, i = .int .i64 (k : Int) ∧ k ≤ n ∧ Below w.heap.size w wr) (fun i _ => n - (intOf i).toNat)
  case atStart => exact ⟨0, rfl, Nat.zero_le _, Below.refl _ _⟩
  case round =>
    obtain ⟨k, rfl, hk, hbw⟩ := hrel
    have HBW := Lib.hid hbw
    by_cases hlt : k < n
    · have hlti : (k : Int) < (n : Int) := by omega
      obtain ⟨b1, o1, rfl, hl1, hc1⟩ := (HA.out.below hbw).text k (by rw [HN.out]; exact hlt)
      obtain ⟨b2, o2, rfl, hl2, hc2⟩ := (HB.out.below hbw).text k (by rw [HN.out]; exact hlt)
      obtain ⟨x, hx⟩ : ∃ x, x = l.getD k [] := ⟨_, rfl⟩
      rw [← hx] at hc1 hc2
      have hT := tx_toList x
      clear hbw hx
      go_wp2_with fail
      go_quiet (fail)
      have HBD : Hid (Below w.heap.size w (wr.drewN nq)) := Lib.hid (below_drewN HBW.out nq)
      obtain ⟨wd, hwd⟩ : ∃ wd, wd = World.drewN wr nq := ⟨_, rfl⟩
      rw [← hwd] at HBD ⊢
      clear hwd
      go_wp2_with fail
      go_roundw
      case rel => exact ⟨k + 1, by simp, by omega, HBD.out⟩
      case measure => simp [intOf]; omega
    · have hlti : ¬ (k : Int) < (n : Int) := by omega
      clear hbw
      go_wp2_with fail
      go_ret
      exact ⟨rfl, HBW.out⟩

end Go.Proofs.Ytmcgjkhbljdddaa
