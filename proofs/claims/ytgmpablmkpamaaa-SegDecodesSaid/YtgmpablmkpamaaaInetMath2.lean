/-
  Plain mathematics of layer 2, more: lists in parts, halves changed, sums mended. Nothing of the program.
-/
import Derived.Test.YtgmpablmkpamaaaInetMath
namespace Go.Proofs.Ytgmpablmkpamaaa
set_option linter.unusedVariables false

/-- two numbers fold to the same if they are alike by 65535, and are 0 together -/
theorem fo_eq (s t : Int) (h : (s - t) % 65535 = 0) (hz : s = 0 ↔ t = 0) : fo s = fo t := by
  unfold fo
  by_cases h0 : s = 0
  · rw [if_pos h0, if_pos (hz.1 h0)]
  · rw [if_neg h0, if_neg (fun e => h0 (hz.2 e))]; omega

/-- the halves changed with each other -/
def sw (n : Int) : Int := n % 256 * 256 + n / 256

/-- a list's bytes at even places, and at odd ones -/
def evens : Nat → List Int → Int
  | _, [] => 0
  | p, x :: r => (if p % 2 = 0 then x else 0) + evens (p + 1) r

theorem tot_evens (l : List Int) : ∀ p, tot p l = 256 * evens p l + evens (p + 1) l := by
  induction l with
  | nil => intro p; simp [tot, evens]
  | cons x r ih =>
    intro p
    simp only [tot, evens, ih (p + 1)]
    have e : evens (p + 1 + 1) r = evens (p + 2) r := rfl
    by_cases h : p % 2 = 0
    · rw [if_pos h, if_pos h, if_neg (by omega)]; omega
    · rw [if_neg h, if_neg h, if_pos (by omega)]; omega
theorem evens_two (l : List Int) : ∀ p q, p % 2 = q % 2 → evens p l = evens q l := by
  induction l with
  | nil => intro p q _; rfl
  | cons x r ih => intro p q h; simp only [evens, h, ih (p + 1) (q + 1) (by omega)]
theorem evens_bd (l : List Int) (h : ∀ z ∈ l, 0 ≤ z ∧ z ≤ 255) : ∀ p, 0 ≤ evens p l := by
  induction l with
  | nil => intro p; simp [evens]
  | cons x r ih =>
    intro p
    have h1 := h x (by simp)
    have h2 := ih (fun z hz => h z (by simp [hz])) (p + 1)
    simp only [evens]
    split <;> omega

/-- WHERE THE FIRST BYTES ARE ODD the halves change places -/
theorem fo_sw (l : List Int) (h : ∀ z ∈ l, 0 ≤ z ∧ z ≤ 255) : fo (sw (fo (tot 0 l))) = fo (tot 1 l) := by
  have e0 := tot_evens l 0
  have e1 := tot_evens l 1
  have e2 := evens_two l 2 0 rfl
  have b0 := evens_bd l h 0
  have b1 := evens_bd l h 1
  rw [show (1 : Nat) + 1 = 2 from rfl, e2] at e1
  rw [show (0 : Nat) + 1 = 1 from rfl] at e0
  have hf := fo_bd (tot 0 l) (by omega)
  apply fo_eq
  · unfold sw fo at *; by_cases hz : tot 0 l = 0
    · rw [if_pos hz] at *; omega
    · rw [if_neg hz] at *; omega
  · unfold sw fo at *; by_cases hz : tot 0 l = 0
    · rw [if_pos hz] at *; constructor <;> intro <;> omega
    · rw [if_neg hz] at *; constructor <;> intro <;> omega
theorem sw_bd (n : Int) (h0 : 0 ≤ n) (h1 : n ≤ 65535) : 0 ≤ sw n ∧ sw n ≤ 65535 := by unfold sw; omega

theorem fo_parts (x y : List Int) (hx : ∀ z ∈ x, 0 ≤ z ∧ z ≤ 255) (hy : ∀ z ∈ y, 0 ≤ z ∧ z ≤ 255) :
    fo (tot 0 (x ++ y)) = fo (fo (tot 0 x) + (if x.length % 2 = 1 then sw (fo (tot 0 y)) else fo (tot 0 y))) := by
  have bx := (tot_bd0 x hx).1
  have by0 := (tot_bd0 y hy).1
  have by1 := (tot_bd y hy 1).1
  rw [tot_append, Nat.zero_add]
  by_cases h : x.length % 2 = 1
  · rw [if_pos h, tot_two y x.length 1 (by omega)]
    have hs := sw_bd _ (fo_bd _ by0).1 (fo_bd _ by0).2
    rw [fo_add _ _ bx hs.1, ← fo_add2 _ _ bx hs.1, fo_sw y hy, fo_add2 _ _ bx by1]
  · rw [if_neg h, tot_two y x.length 0 (by omega), fo_add2 _ _ bx by0]

theorem tot_pair (l : List Int) (a b : Int) (h : l.length % 2 = 0) : tot 0 (l ++ [a, b]) = tot 0 l + (256 * a + b) := by
  rw [tot_append]; simp [tot, h]; intro h2; omega
theorem fo_sealed (l : List Int) (h : ∀ z ∈ l, 0 ≤ z ∧ z ≤ 255) (hl : l.length % 2 = 0) (s : Int) (hs : s = 65535 - fo (tot 0 l)) : 65535 = fo (tot 0 (l ++ [s / 256, s % 256])) := by
  have b0 := (tot_bd0 l h).1
  have hf := fo_bd _ b0
  rw [tot_pair l _ _ hl]
  have e : tot 0 l + (256 * (s / 256) + s % 256) = tot 0 l + s := by omega
  rw [e, hs]
  unfold fo at *
  by_cases hz : tot 0 l = 0
  · rw [if_pos hz, if_neg (by omega)]; omega
  · rw [if_neg hz] at *; rw [if_neg (by omega)]; omega
theorem tot_zero (l : List Int) (h : l.length % 2 = 1) : tot 0 (l ++ [0]) = tot 0 l := by
  rw [tot_snoc]; simp

theorem tot_take1 (l : List Int) (k : Nat) (hk : k + 1 < l.length) (h2 : k % 2 = 0) : tot 1 (l.take (k + 2)) = tot 1 (l.take k) + (256 * l.getD (k + 1) 0 + l.getD k 0) := by
  rw [show k + 2 = k + 1 + 1 from rfl, take_snoc l (k + 1) hk, tot_snoc, take_snoc l k (by omega), tot_snoc]
  simp only [List.length_append, List.length_take, List.length_cons, List.length_nil]
  rw [Nat.min_eq_left (by omega), if_neg (by omega), if_pos (by omega)]; omega
theorem fo_swap (X Y : List Int) (hx : ∀ z ∈ X, 0 ≤ z ∧ z ≤ 255) (h : tot 0 Y = tot 1 X) : sw (fo (tot 0 X)) = fo (tot 0 Y) := by
  have b0 := fo_bd _ (tot_bd0 X hx).1
  have b1 := sw_bd _ b0.1 b0.2
  rw [h, ← fo_sw X hx, fo_small _ b1.1 b1.2]

theorem tot_set (l : List Int) : ∀ (i : Nat) (v : Int) (p : Nat), i < l.length → tot p (l.set i v) = tot p l + (if (p + i) % 2 = 0 then 256 * (v - l.getD i 0) else v - l.getD i 0) := by
  induction l with
  | nil => intro i v p h; simp at h
  | cons x r ih =>
    intro i v p h
    cases i with
    | zero => simp only [List.set_cons_zero, tot, Nat.add_zero, List.getD_cons_zero]; split <;> omega
    | succ i =>
      simp only [List.set_cons_succ, tot, List.getD_cons_succ]
      rw [ih i v (p + 1) (by simpa using h), show p + 1 + i = p + (i + 1) by omega]
      omega
theorem getD_set_ne (l : List Int) (i j : Nat) (v : Int) (h : i ≠ j) : (l.set i v).getD j 0 = l.getD j 0 := by
  simp [List.getD_eq_getElem?_getD, List.getElem?_set_ne h]
/-- the list with the number n in the place of the pair at i -/
def put2 (X : List Int) (i : Nat) (n : Int) : List Int := (X.set i (n / 256)).set (i + 1) (n % 256)
theorem tot_put2 (X : List Int) (i : Nat) (n : Int) (h : i + 1 < X.length) (h2 : i % 2 = 0) : tot 0 (put2 X i n) = tot 0 X - (256 * X.getD i 0 + X.getD (i + 1) 0) + n := by
  unfold put2
  rw [tot_set _ _ _ _ (by simpa using h), tot_set _ _ _ _ (by omega), if_pos (by omega), if_neg (by omega), getD_set_ne _ _ _ _ (by omega)]
  omega
theorem put2_len (X : List Int) (i : Nat) (n : Int) : (put2 X i n).length = X.length := by unfold put2; simp
theorem mem_set_bd (l : List Int) (h : ∀ z ∈ l, 0 ≤ z ∧ z ≤ 255) (i : Nat) (v : Int) (hv : 0 ≤ v ∧ v ≤ 255) : ∀ z ∈ l.set i v, 0 ≤ z ∧ z ≤ 255 := by
  intro z hz
  rcases List.mem_or_eq_of_mem_set hz with h1 | h1
  · exact h z h1
  · rw [h1]; exact hv
theorem put2_bd (X : List Int) (h : ∀ z ∈ X, 0 ≤ z ∧ z ≤ 255) (i : Nat) (n : Int) (h0 : 0 ≤ n) (h1 : n ≤ 65535) : ∀ z ∈ put2 X i n, 0 ≤ z ∧ z ≤ 255 :=
  mem_set_bd _ (mem_set_bd _ h _ _ (by omega)) _ _ (by omega)
/-- a pair is no more than all -/
theorem pair_le (X : List Int) (h : ∀ z ∈ X, 0 ≤ z ∧ z ≤ 255) (i : Nat) (hi : i + 1 < X.length) (h2 : i % 2 = 0) : 256 * X.getD i 0 + X.getD (i + 1) 0 ≤ tot 0 X := by
  have h0 := (tot_bd0 _ (put2_bd X h i 0 (by omega) (by omega))).1
  rw [tot_put2 X i 0 hi h2] at h0
  omega

theorem mended_yes (t was n : Int) (h0 : 0 ≤ was) (h1 : was ≤ 65535) (h2 : was ≤ t) (h3 : 0 ≤ n) (h4 : n ≤ 65535) (hz : t - was + n ≠ 0) : 65535 - fo (65535 - (65535 - fo t) + 65535 - was + n) = 65535 - fo (t - was + n) := by
  have e : fo (65535 - (65535 - fo t) + 65535 - was + n) = fo (t - was + n) := by
    apply fo_eq
    · unfold fo; by_cases h : t = 0
      · rw [if_pos h]; omega
      · rw [if_neg h]; omega
    · unfold fo; by_cases h : t = 0
      · rw [if_pos h]; constructor <;> intro <;> omega
      · rw [if_neg h]; constructor <;> intro <;> omega
  rw [e]
theorem mended_no (t was n : Int) (h0 : 0 ≤ was) (h1 : was ≤ 65535) (h2 : was ≤ t) (h3 : 0 ≤ n) (h4 : n ≤ 65535) (hz : t - was + n = 0) : 65535 - fo (65535 - (65535 - fo t) + 65535 - was + n) = 0 := by
  have e1 : n = 0 := by omega
  have e2 : t = was := by omega
  subst e1; subst e2
  have e3 : fo t = t := fo_small t h0 h1
  rw [e3, show 65535 - (65535 - t) + 65535 - t + 0 = 65535 by omega]
  decide

end Go.Proofs.Ytgmpablmkpamaaa
