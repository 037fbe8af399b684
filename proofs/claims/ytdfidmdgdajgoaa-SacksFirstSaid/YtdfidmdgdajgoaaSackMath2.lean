/-
  Plain mathematics of layer 3, the sixth part: each range is told once, that of the place ahead of all.
-/
import Derived.Test.YtdfidmdgdajgoaaSackMath
namespace Go.Proofs.Ytdfidmdgdajgoaa
set_option linter.unusedVariables false

theorem ch_pair : ∀ (l : List Rg) (lo : Int), Ch lo l → l.Pairwise (· ≠ ·)
  | [], _, _ => List.Pairwise.nil
  | x :: t, lo, h => List.Pairwise.cons (fun y hy e => by
      have h1 := ch_lo t x.2 h.2.2 y hy
      have h2 := h.2.1
      subst e
      omega) (ch_pair t x.2 h.2.2)
theorem sack_pair (last : Int) (l : List Rg) (lo : Int) (h : Ch lo l) : (sackAll last l).Pairwise (· ≠ ·) := by
  rw [sackAll_eq, List.pairwise_append]
  have hp := ch_pair l lo h
  refine ⟨hp.filter _, List.pairwise_reverse.2 ((hp.filter _).imp fun h e => h e.symm), fun a ha b hb e => ?_⟩
  rw [List.mem_reverse] at hb
  have h1 := (List.mem_filter.1 ha).2
  have h2 := (List.mem_filter.1 hb).2
  rw [← e] at h2
  simp [h1] at h2
theorem pair_idx {l : List Rg} (h : l.Pairwise (· ≠ ·)) (i j : Nat) (x : Rg) (hi : l[i]? = some x) (hj : l[j]? = some x) : i = j := by
  rw [List.pairwise_iff_getElem] at h
  obtain ⟨h1, e1⟩ := List.getElem?_eq_some_iff.1 hi
  obtain ⟨h2, e2⟩ := List.getElem?_eq_some_iff.1 hj
  rcases Nat.lt_trichotomy i j with c | c | c
  · exact absurd (e1.trans e2.symm) (h i j h1 h2 c)
  · exact c
  · exact absurd (e2.trans e1.symm) (h j i h2 h1 c)
theorem sack_later (last : Int) (l : List Rg) (lo : Int) (h : Ch lo l) (i : Nat) (x : Rg) (h0 : 0 < i) (hx : (sackAll last l)[i]? = some x) : hitB last x = false := by
  rw [sackAll_eq] at hx
  have hl : (l.filter (hitB last)).length ≤ i := by
    rcases hit_one last l lo h with e | ⟨y, e⟩ <;> rw [e] <;> simp; omega
  rw [List.getElem?_append_right hl] at hx
  have hm := List.mem_of_getElem? hx
  rw [List.mem_reverse] at hm
  have := (List.mem_filter.1 hm).2
  simpa using this
theorem sack_first (last : Int) (l : List Rg) (lo : Int) (h : Ch lo l) (hin : inR l last) : ∃ x, (sackAll last l)[0]? = some x ∧ x.1 ≤ last ∧ last < x.2 := by
  obtain ⟨y, hy, h1, h2⟩ := hin
  have hm : y ∈ l.filter (hitB last) := List.mem_filter.2 ⟨hy, by simp [hitB, h1, h2]⟩
  rcases hit_one last l lo h with e | ⟨z, e⟩
  · rw [e] at hm; cases hm
  · rw [e] at hm
    simp at hm
    subst hm
    exact ⟨y, by rw [sackAll_eq, e]; rfl, h1, h2⟩

end Go.Proofs.Ytdfidmdgdajgoaa
