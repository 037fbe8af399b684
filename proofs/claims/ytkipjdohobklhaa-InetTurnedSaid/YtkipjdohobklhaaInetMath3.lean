/-
  Plain mathematics of layer 2, more: pairs gone through from some place on, round to it again; and when one number changed is seen. Nothing of the program.
-/
import Derived.Test.YtkipjdohobklhaaInetMath2
namespace Go.Proofs.Ytkipjdohobklhaa
set_option linter.unusedVariables false

/-- the first j pairs -/
def pre (X : List Int) (j : Nat) : Int := tot 0 (X.take (2 * j))
theorem pre_step (X : List Int) (j : Nat) (h : 2 * j + 1 < X.length) : pre X (j + 1) = pre X j + (256 * X.getD (2 * j) 0 + X.getD (2 * j + 1) 0) := by
  unfold pre
  rw [show 2 * (j + 1) = 2 * j + 1 + 1 by omega, tot_take X _ h, tot_take X _ (by omega), if_pos (by omega), if_neg (by omega)]; omega
theorem pre_zero (X : List Int) : pre X 0 = 0 := by simp [pre, tot]
/-- i pairs from the place t on, of h that stand in a ring -/
def rot (X : List Int) (h t i : Nat) : Int := if t + i ≤ h then pre X (t + i) - pre X t else pre X h - pre X t + pre X (t + i - h)
theorem rot_zero (X : List Int) (h t : Nat) (ht : t < h) : rot X h t 0 = 0 := by
  unfold rot; rw [if_pos (by omega)]; simp
theorem rot_full (X : List Int) (h t : Nat) (ht : t < h) (hl : X.length = 2 * h) : rot X h t h = tot 0 X := by
  have e : pre X h = tot 0 X := by unfold pre; rw [List.take_of_length_le (by omega)]
  unfold rot
  by_cases h0 : t = 0
  · subst h0; rw [if_pos (by omega), Nat.zero_add, pre_zero, e]; omega
  · rw [if_neg (by omega), show t + h - h = t by omega, e]; omega
theorem rot_step (X : List Int) (h t i : Nat) (ht : t < h) (hi : i < h) (hl : X.length = 2 * h) :
    rot X h t (i + 1) = 256 * X.getD (2 * ((i + t) % h)) 0 + X.getD (2 * ((i + t) % h) + 1) 0 + rot X h t i := by
  by_cases h1 : t + i < h
  · have e : (i + t) % h = t + i := by rw [Nat.mod_eq_of_lt (by omega)]; omega
    have s := pre_step X (t + i) (by omega)
    rw [e]; unfold rot
    rw [if_pos (by omega), if_pos (by omega), show t + (i + 1) = t + i + 1 by omega, s]; omega
  · have e : (i + t) % h = t + i - h := by
      rw [Nat.mod_eq_sub_mod (by omega), Nat.mod_eq_of_lt (by omega)]; omega
    have s := pre_step X (t + i - h) (by omega)
    rw [e]; unfold rot
    rw [if_neg (by omega)]
    by_cases h2 : t + i = h
    · rw [if_pos (by omega), show t + (i + 1) - h = t + i - h + 1 by omega, s]
      have z : pre X (t + i - h) = 0 := by rw [show t + i - h = 0 by omega]; exact pre_zero X
      rw [z, show t + i = h by omega]; omega
    · rw [if_neg (by omega), show t + (i + 1) - h = t + i - h + 1 by omega, s]; omega

theorem tot_cons2 (a b : Int) (Y : List Int) : tot 0 ([a, b] ++ Y) = 256 * a + b + tot 0 Y := by
  rw [tot_append]; simp [tot, tot_two Y 2 0 rfl]

theorem fo_ne (t u v : Int) (h0 : 0 ≤ u) (h1 : u ≤ 65535) (h2 : u ≤ t) (h3 : 0 ≤ v) (h4 : v ≤ 65535) (h5 : u ≠ v) (h6 : ¬ (u + v = 65535 ∧ (u = 0 ∨ v = 0))) : fo (t - u + v) ≠ fo t := by
  intro e
  unfold fo at e
  by_cases ht : t = 0
  · rw [if_pos ht, if_neg (by omega)] at e; omega
  · rw [if_neg ht] at e
    by_cases hz : t - u + v = 0
    · rw [if_pos hz] at e; omega
    · rw [if_neg hz] at e; omega
theorem fo_on (t v : Int) (h : t = 0) (h4 : v = 65535) : fo (t - 0 + v) ≠ fo t ∧ fo t = 0 := by
  subst h; subst h4; decide
theorem fo_off (t u : Int) (h : t = 65535) (h4 : u = 65535) : fo (t - u + 0) ≠ fo t ∧ fo (t - u + 0) = 0 := by
  subst h; subst h4; decide

/-- when a number changed is seen: u: what it was; v: what it is; t: all, as it was -/
def Seen (u v fx fz : Int) : Prop :=
    ((u == v) = true ∧ (fz == fx) = true) ∨
    ((u == v) = false ∧ (u + v == 65535) = true ∧ (u == 0) = true ∧ (fz == fx) = true) ∨
    ((u == v) = false ∧ (u + v == 65535) = true ∧ (u == 0) = true ∧ (fz == fx) = false ∧ fx = 0) ∨
    ((u == v) = false ∧ (u + v == 65535) = true ∧ (u == 0) = false ∧ (v == 0) = true ∧ (fz == fx) = true) ∨
    ((u == v) = false ∧ (u + v == 65535) = true ∧ (u == 0) = false ∧ (v == 0) = true ∧ (fz == fx) = false ∧ fz = 0) ∨
    ((u == v) = false ∧ (u + v == 65535) = true ∧ (u == 0) = false ∧ (v == 0) = false ∧ (fz == fx) = false) ∨
    ((u == v) = false ∧ (u + v == 65535) = false ∧ (fz == fx) = false)
theorem seen (t u v : Int) (h0 : 0 ≤ u) (h1 : u ≤ 65535) (h2 : u ≤ t) (h3 : 0 ≤ v) (h4 : v ≤ 65535) : Seen u v (fo t) (fo (t - u + v)) := by
  unfold Seen
  simp only [beq_iff_eq, beq_eq_false_iff_ne]
  by_cases c1 : u = v
  · exact .inl ⟨c1, by rw [show t - u + v = t by omega]⟩
  by_cases c2 : u + v = 65535
  · by_cases c3 : u = 0
    · by_cases c4 : t = 0
      · have := fo_on t v c4 (by omega)
        rw [← c3] at this
        exact .inr (.inr (.inl ⟨c1, c2, c3, this.1, this.2.trans c3⟩))
      · exact .inr (.inl ⟨c1, c2, c3, fo_eq _ _ (by omega) (by omega)⟩)
    · by_cases c4 : v = 0
      · by_cases c5 : t = 65535
        · have := fo_off t u c5 (by omega)
          rw [← c4] at this
          exact .inr (.inr (.inr (.inr (.inl ⟨c1, c2, c3, c4, this.1, this.2.trans c4⟩))))
        · exact .inr (.inr (.inr (.inl ⟨c1, c2, c3, c4, fo_eq _ _ (by omega) (by omega)⟩)))
      · exact .inr (.inr (.inr (.inr (.inr (.inl ⟨c1, c2, c3, c4, fo_ne t u v h0 h1 h2 h3 h4 c1 (by omega)⟩)))))
  · exact .inr (.inr (.inr (.inr (.inr (.inr ⟨c1, c2, fo_ne t u v h0 h1 h2 h3 h4 c1 (by omega)⟩)))))

end Go.Proofs.Ytkipjdohobklhaa
