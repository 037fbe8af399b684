/-
  Plain mathematics of layer 3, the fifth part: which ranges are told, and in which order.
-/
import Derived.Test.YtehckiihipnimaaHoleMath
namespace Go.Proofs.Ytehckiihipnimaa
set_option linter.unusedVariables false

/-- is the place within the range? -/
def hitB (last : Int) (x : Rg) : Bool := decide (x.1 ≤ last) && decide (last < x.2)
/-- one range more is told: that of the place ahead of all, another one behind all -/
def sackStep (last : Int) (out : List Rg) (x : Rg) : List Rg := if hitB last x = true then x :: out else out ++ [x]
/-- all ranges, as they are told -/
def sackAll (last : Int) (l : List Rg) : List Rg := l.reverse.foldl (sackStep last) []

theorem sack_fold (last : Int) : ∀ (l out : List Rg), l.foldl (sackStep last) out = (l.filter (hitB last)).reverse ++ out ++ l.filter (fun x => !hitB last x)
  | [], out => by simp
  | x :: t, out => by
    rw [List.foldl_cons, sack_fold last t]
    unfold sackStep
    by_cases h : hitB last x = true
    · simp [h]
    · simp [h]
theorem sackAll_eq (last : Int) (l : List Rg) : sackAll last l = l.filter (hitB last) ++ (l.filter (fun x => !hitB last x)).reverse := by
  unfold sackAll
  rw [sack_fold]
  simp [List.filter_reverse]
theorem filter_two (f : Rg → Bool) : ∀ l : List Rg, (l.filter f).length + (l.filter (fun x => !f x)).length = l.length
  | [] => rfl
  | x :: t => by
    have := filter_two f t
    by_cases h : f x = true
    · simp [h]; omega
    · simp [h]; omega
theorem sackAll_len (last : Int) (l : List Rg) : (sackAll last l).length = l.length := by
  rw [sackAll_eq, List.length_append, List.length_reverse]
  exact filter_two _ _
theorem sackAll_mem (last : Int) (l : List Rg) (x : Rg) : x ∈ sackAll last l ↔ x ∈ l := by
  rw [sackAll_eq]
  simp only [List.mem_append, List.mem_reverse, List.mem_filter]
  constructor
  · rintro (h | h) <;> exact h.1
  · intro h
    by_cases g : hitB last x = true
    · exact .inl ⟨h, g⟩
    · exact .inr ⟨h, by simp [g]⟩
/-- of ranges apart at most one has the place -/
theorem hit_one (last : Int) : ∀ (l : List Rg) (lo : Int), Ch lo l → l.filter (hitB last) = [] ∨ ∃ x, l.filter (hitB last) = [x]
  | [], _, _ => .inl rfl
  | x :: t, lo, h => by
    by_cases g : hitB last x = true
    · refine .inr ⟨x, ?_⟩
      rw [List.filter_cons_of_pos g]
      congr 1
      rw [List.filter_eq_nil_iff]
      intro y hy hg
      have hb := ch_lo t x.2 h.2.2 y hy
      simp [hitB] at g hg
      omega
    · rw [List.filter_cons_of_neg g]
      exact hit_one last t x.2 h.2.2

end Go.Proofs.Ytehckiihipnimaa
