/-
  What utf8 decodes at a byte beyond ASCII: a rune beyond ASCII, out of bytes beyond ASCII. Mathematics alone.
-/
import Derived.Test.YthjpighlcalocaaGreatDoorText
import Derived.Lib.TrimU
namespace Go.Proofs.YthjpighlcalocaaGreatDoor
set_option linter.unusedVariables false

theorem valid_le {c : Nat} (h : Utf8.valid (c : Int) = true) : c ≤ 1114111 := by
  simp [Utf8.valid] at h
  omega
theorem decode_high (s : ByteArray) (i : Nat) (h0 : i < s.size) (hx : 128 ≤ (s.get! i).toNat) :
    128 ≤ (Utf8.decode s i).1 ∧ (Utf8.decode s i).1 ≤ 1114111 ∧ ∀ k, k < (Utf8.decode s i).2 → i + k < s.size ∧ 128 ≤ (s.get! (i + k)).toNat := by
  have one : ∀ k, k < 1 → i + k < s.size ∧ 128 ≤ (s.get! (i + k)).toNat := fun k hk => by
    obtain rfl : k = 0 := by omega
    exact ⟨h0, hx⟩
  have err : 128 ≤ Utf8.runeError ∧ Utf8.runeError ≤ 1114111 := by decide
  unfold Utf8.decode
  simp only [Nat.add_zero]
  rw [if_neg (by omega)]
  split
  · rename_i hc
    simp at hc
    obtain ⟨g0, g1, g2⟩ := hc
    split
    · rename_i hv
      have := (s.get! i).toNat_lt
      refine ⟨by omega, by simp only; omega, fun k hk => ?_⟩
      rcases k with _ | _ | k
      · exact ⟨h0, hx⟩
      · exact ⟨g1, show 128 ≤ (s.get! (i + 1)).toNat by omega⟩
      · simp only at hk; omega
    · exact ⟨err.1, err.2, one⟩
  · split
    · rename_i hc
      simp at hc
      obtain ⟨⟨g0, g1, g2⟩, g3, g4⟩ := hc
      split
      · rename_i hv
        simp at hv
        refine ⟨by simp only; omega, valid_le (by simpa using hv.2), fun k hk => ?_⟩
        rcases k with _ | _ | _ | k
        · exact ⟨h0, hx⟩
        · exact ⟨g1, show 128 ≤ (s.get! (i + 1)).toNat by omega⟩
        · exact ⟨g3, show 128 ≤ (s.get! (i + 2)).toNat by omega⟩
        · simp only at hk; omega
      · exact ⟨err.1, err.2, one⟩
    · split
      · rename_i hc
        simp at hc
        obtain ⟨⟨⟨g0, g1, g2⟩, g3, g4⟩, g5, g6⟩ := hc
        split
        · rename_i hv
          simp at hv
          refine ⟨by simp only; omega, valid_le (by simpa using hv.2), fun k hk => ?_⟩
          rcases k with _ | _ | _ | _ | k
          · exact ⟨h0, hx⟩
          · exact ⟨g1, show 128 ≤ (s.get! (i + 1)).toNat by omega⟩
          · exact ⟨g3, show 128 ≤ (s.get! (i + 2)).toNat by omega⟩
          · exact ⟨g5, show 128 ≤ (s.get! (i + 3)).toNat by omega⟩
          · simp only at hk; omega
        · exact ⟨err.1, err.2, one⟩
      · exact ⟨err.1, err.2, one⟩

theorem tx_getb (l : Byt) (j : Nat) (h : j < l.length) : (tx l).get! j = l.getD j 0 := by
  show (l.toArray)[j]! = _
  rw [getElem!_pos l.toArray j (by simpa using h), List.getElem_toArray, List.getD_eq_getElem?_getD, List.getElem?_eq_getElem h]; rfl
/-- whether one of the bytes is 0 or a slash -/
def anyB (l : Byt) : Bool := l.any fun b => b == 0 || b == 47
theorem anyB_false {l : Byt} : anyB l = false ↔ ∀ j, j < l.length → l.getD j 1 ≠ 0 ∧ l.getD j 1 ≠ 47 := by
  unfold anyB
  rw [List.any_eq_false]
  constructor
  · intro h j hj
    have := h (l[j]) (List.getElem_mem hj)
    rw [List.getD_eq_getElem?_getD, List.getElem?_eq_getElem hj]
    simpa using this
  · intro h x hx
    obtain ⟨j, hj, rfl⟩ := List.getElem_of_mem hx
    have := h j hj
    rw [List.getD_eq_getElem?_getD, List.getElem?_eq_getElem hj] at this
    simpa using this
theorem anyB_true {l : Byt} {j : Nat} (hj : j < l.length) (h : l.getD j 0 = 0 ∨ l.getD j 0 = 47) : anyB l = true := by
  unfold anyB
  rw [List.any_eq_true]
  refine ⟨l[j], List.getElem_mem hj, ?_⟩
  rw [List.getD_eq_getElem?_getD, List.getElem?_eq_getElem hj] at h
  simpa using h
theorem nameB_any (l : Byt) : nameB l = (decide (l ≠ []) && (decide (l.length ≤ 16) && (decide (l ≠ [46]) && (decide (l ≠ [46, 46]) && !anyB l)))) := by
  unfold nameB anyB
  rw [List.not_any_eq_all_not]
  congr 5
  funext b
  simp [Bool.not_or, bne]

end Go.Proofs.YthjpighlcalocaaGreatDoor
