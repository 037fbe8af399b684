/-
  The document's nameMay and namesFault; what two lists of texts have in common.
-/
import Derived.Test.YtelfnlocgknpjaaDecHigh
import Derived.Test.YtelfnlocgknpjaaKit
import Derived.Test.YtelfnlocgknpjaaTool
namespace Go.Proofs.Ytelfnlocgknpjaa
open Go.RowKit
set_option linter.unusedVariables false
set_option linter.unusedSimpArgs false

theorem nameB_odd (l : Byt) (v : Bool) (h : nameB l = v) : (l = [] ∧ v = false) ∨ (l ≠ [] ∧ 16 < l.length ∧ v = false) ∨ (l = [46] ∧ v = false) ∨ (l = [46, 46] ∧ v = false) ∨ (l ≠ [] ∧ l.length ≤ 16 ∧ l ≠ [46] ∧ l ≠ [46, 46] ∧ anyB l = !v) := by
  rw [nameB_any] at h
  by_cases h1 : l = []
  · left; subst h1; exact ⟨rfl, by rw [← h] <;> rfl⟩
  · by_cases h2 : l.length ≤ 16
    · by_cases h3 : l = [46]
      · right; right; left; subst h3; exact ⟨rfl, by rw [← h] <;> rfl⟩
      · by_cases h4 : l = [46, 46]
        · right; right; right; left; subst h4; exact ⟨rfl, by rw [← h] <;> rfl⟩
        · right; right; right; right
          simp [h1, h2, h3, h4] at h
          exact ⟨h1, h2, h3, h4, by rw [← h] <;> simp⟩
    · right; left; simp [h1, h2] at h; exact ⟨h1, by omega, h⟩

/-- none of the first k bytes is 0 or a slash -/
def FreeTo (l : Byt) (k : Nat) : Prop := ∀ j, j < k → j < l.length → l.getD j 0 ≠ 0 ∧ l.getD j 0 ≠ 47
theorem freeTo_all {l : Byt} {k : Nat} (h : FreeTo l k) (hk : l.length ≤ k) : anyB l = false := by
  rw [anyB_false]
  intro j hj
  have := h j (by omega) hj
  rw [List.getD_eq_getElem?_getD, List.getElem?_eq_getElem hj] at this ⊢
  exact this
theorem freeTo_succ {l : Byt} {k : Nat} (h : FreeTo l k) (h0 : ¬ bn l k = 0) (h1 : ¬ bn l k = 47) : FreeTo l (k + 1) := by
  intro j hj hl
  by_cases e : j = k
  · subst e
    refine ⟨fun e => h0 ?_, fun e => h1 ?_⟩
    · rw [bn, e]; rfl
    · rw [bn, e]; rfl
  · exact h j (by omega) hl
theorem free_hit {l : Byt} {k : Nat} (hk : k < l.length) (h : bn l k = 0 ∨ bn l k = 47) : anyB l = true := by
  refine anyB_true hk ?_
  rcases h with h | h
  · left; exact (bn_eq l k 0).1 h
  · right; exact (bn_eq l k 47).1 h

set_option maxHeartbeats 1000000 in
theorem nameMay_any (l : Byt) (w : World) :
    Calls Try.prog 53 #[.string (tx l)] w fun e w' => e = .returned (.bool (nameB l)) ∧ w' = w := by
  have hT := tx_toList l
  have hsz := tx_size l
  obtain ⟨v, hv⟩ : ∃ v, nameB l = v := ⟨_, rfl⟩
  rw [hv]
  rcases nameB_odd l v hv with ⟨rfl, rfl⟩ | ⟨h1, h2, rfl⟩ | ⟨rfl, rfl⟩ | ⟨rfl, rfl⟩ | ⟨h1, h2, h3, h4, h5⟩
  · clear hv
    go_enter Try.func53, Try.ntmps53
    go_wp2_with fail
    go_ret
    exact ⟨rfl, rfl⟩
  · have hE : l.isEmpty = false := by simpa using h1
    have h6 : (16 : Int) < (l.length : Int) := by omega
    have h7 : ((l.length : Int) == 0) = false := by simp; exact h1
    clear hv h1 h2
    go_enter Try.func53, Try.ntmps53
    go_wp2_with fail
    go_ret
    exact ⟨rfl, rfl⟩
  · clear hv
    go_enter Try.func53, Try.ntmps53
    go_wp2_with fail
    go_ret
    exact ⟨rfl, rfl⟩
  · clear hv
    go_enter Try.func53, Try.ntmps53
    go_wp2_with fail
    go_ret
    exact ⟨rfl, rfl⟩
  · have hE : l.isEmpty = false := by simpa using h1
    have h6 : ¬ (16 : Int) < (l.length : Int) := by omega
    have h7 : (l == [46]) = false := by simpa using h3
    have h8 : (l == [46, 46]) = false := by simpa using h4
    have h9 : ((l.length : Int) == 0) = false := by simp; exact h1
    have hg := bn_get l
    have H5 := Lib.hid h5
    obtain ⟨n, hn⟩ : ∃ n, n = l.length := ⟨_, rfl⟩
    rw [← hn] at hsz h2 h6 h9
    have HN := Lib.hid hn
    clear hv h5 h1 h2 h3 h4 hn
    go_enter Try.func53, Try.ntmps53
    go_wp2_with fail
    go_loop [3] (fun i => ∃ k : Nat, i = .int .i64 (k : Int) ∧ k ≤ n ∧ FreeTo l k) (fun i => n - (intOf i).toNat)
    case atStart => exact ⟨0, rfl, Nat.zero_le _, fun j hj => by omega⟩
    case round =>
      obtain ⟨k, rfl, hk, hf⟩ := hrel
      have HF := Lib.hid hf
      clear hf
      by_cases hlt : k < n
      · have hlti : (k : Int) < (n : Int) := by omega
        have hb0 := bn_nonneg l k
        have hb1 := bn_le l k
        by_cases hz : bn l k = 0 ∨ bn l k = 47
        · have HH : Hid (anyB l = true) := Lib.hid (free_hit (by rw [← HN.out]; exact hlt) hz)
          have HV : Hid (v = false) := Lib.hid (by have := H5.out; rw [HH.out] at this; simpa using this.symm)
          by_cases hz0 : bn l k = 0
          · go_wp2_with fail
            go_ret
            exact ⟨by rw [HV.out]; rfl, rfl⟩
          · have hz1 : bn l k = 47 := by rcases hz with h | h; exact absurd h hz0; exact h
            go_wp2_with fail
            go_ret
            exact ⟨by rw [HV.out]; rfl, rfl⟩
        · have hz0 : ¬ bn l k = 0 := fun h => hz (.inl h)
          have hz1 : ¬ bn l k = 47 := fun h => hz (.inr h)
          have hz2 : (bn l k == 0) = false := by simpa using hz0
          have hz3 : (bn l k == 47) = false := by simpa using hz1
          clear hz
          go_wp2_with fail
          go_round
          case rel => exact ⟨k + 1, by simp, by omega, freeTo_succ HF.out hz0 hz1⟩
          case measure => simp [intOf]; omega
      · have hlti : ¬ (k : Int) < (n : Int) := by omega
        have HV : Hid (v = true) := Lib.hid (by have := H5.out; rw [freeTo_all HF.out (by rw [← HN.out]; omega)] at this; simpa using this.symm)
        go_wp2_with fail
        go_ret
        exact ⟨by rw [HV.out]; rfl, rfl⟩

end Go.Proofs.Ytelfnlocgknpjaa
