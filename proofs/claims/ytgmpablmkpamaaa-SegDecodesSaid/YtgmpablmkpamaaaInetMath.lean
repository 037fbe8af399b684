/-
  Plain mathematics of layer 2: what bytes come to in pairs, and what a number folds to. Nothing of the program.
-/
import Derived.Lib.Hide
namespace Go.Proofs.Ytgmpablmkpamaaa
set_option linter.unusedVariables false

/-- the bytes' sum, the first standing at place p: those at even places count 256 times -/
def tot : Nat → List Int → Int
  | _, [] => 0
  | p, x :: r => (if p % 2 = 0 then 256 * x else x) + tot (p + 1) r

/-- what a number folds to -/
def fo (s : Int) : Int := if s = 0 then 0 else (s - 1) % 65535 + 1

theorem tot_append (l m : List Int) : ∀ p, tot p (l ++ m) = tot p l + tot (p + l.length) m := by
  induction l with
  | nil => intro p; simp [tot]
  | cons x r ih =>
    intro p
    have e : p + 1 + r.length = p + (r.length + 1) := by omega
    simp [tot, ih (p + 1), e]
    omega

theorem tot_snoc (l : List Int) (x : Int) (p : Nat) : tot p (l ++ [x]) = tot p l + (if (p + l.length) % 2 = 0 then 256 * x else x) := by
  rw [tot_append]; simp [tot]

theorem tot_bd (l : List Int) (h : ∀ z ∈ l, 0 ≤ z ∧ z ≤ 255) : ∀ p, 0 ≤ tot p l ∧ 2 * tot p l ≤ 65535 * l.length + (if p % 2 = 0 then 65280 else 255) := by
  induction l with
  | nil => intro p; simp [tot]; split <;> omega
  | cons x r ih =>
    intro p
    have h1 := h x (by simp)
    have h2 := ih (fun z hz => h z (by simp [hz])) (p + 1)
    simp only [tot, List.length_cons]
    by_cases hp : p % 2 = 0
    · rw [if_neg (by omega)] at h2; rw [if_pos hp, if_pos hp]; omega
    · rw [if_pos (by omega)] at h2; rw [if_neg hp, if_neg hp]; omega
theorem tot_bd0 (l : List Int) (h : ∀ z ∈ l, 0 ≤ z ∧ z ≤ 255) : 0 ≤ tot 0 l ∧ 2 * tot 0 l ≤ 65535 * l.length + 65280 := by
  have := tot_bd l h 0; simpa using this
theorem tot_take_bd (l : List Int) (h : ∀ z ∈ l, 0 ≤ z ∧ z ≤ 255) (k : Nat) (hk : k ≤ l.length) : 0 ≤ tot 0 (l.take k) ∧ 2 * tot 0 (l.take k) ≤ 65535 * k + 65280 := by
  have := tot_bd0 (l.take k) (fun z hz => h z (List.mem_of_mem_take hz))
  rwa [List.length_take, Nat.min_eq_left hk] at this
theorem take_snoc (l : List Int) (k : Nat) (hk : k < l.length) : l.take (k + 1) = l.take k ++ [l.getD k 0] := by
  rw [List.take_succ_eq_append_getElem hk]; simp [hk]
theorem tot_take (l : List Int) (k : Nat) (hk : k < l.length) : tot 0 (l.take (k + 1)) = tot 0 (l.take k) + (if k % 2 = 0 then 256 * l.getD k 0 else l.getD k 0) := by
  rw [take_snoc l k hk, tot_snoc, List.length_take, Nat.min_eq_left (by omega)]; simp
theorem getD_bd (l : List Int) (h : ∀ z ∈ l, 0 ≤ z ∧ z ≤ 255) (k : Nat) : 0 ≤ l.getD k 0 ∧ l.getD k 0 ≤ 255 := by
  by_cases hk : k < l.length
  · have : l.getD k 0 = l[k] := by simp [hk]
    rw [this]; exact h _ (List.getElem_mem hk)
  · have : l.getD k 0 = 0 := by simp [List.getD_eq_getElem?_getD, List.getElem?_eq_none (Nat.le_of_not_lt hk)]
    rw [this]; omega
theorem tot_two (l : List Int) (p q : Nat) (h : p % 2 = q % 2) : tot p l = tot q l := by
  induction l generalizing p q with
  | nil => simp [tot]
  | cons x r ih => simp only [tot, h, ih (p + 1) (q + 1) (by omega)]

theorem fo_bd (s : Int) (h : 0 ≤ s) : 0 ≤ fo s ∧ fo s ≤ 65535 := by
  unfold fo; split <;> omega
theorem fo_small (s : Int) (h : 0 ≤ s) (h1 : s ≤ 65535) : fo s = s := by
  unfold fo; split <;> omega
theorem fo_narrow (s : Int) (h : 65535 < s) : fo (s % 65536 + s / 65536) = fo s := by
  unfold fo; rw [if_neg (by omega), if_neg (by omega)]; omega
theorem fo_less (s : Int) (h : 65535 < s) : fo (s - 65535) = fo s := by
  unfold fo; rw [if_neg (by omega), if_neg (by omega)]; omega
theorem fo_add (a b : Int) (ha : 0 ≤ a) (hb : 0 ≤ b) : fo (fo a + b) = fo (a + b) := by
  unfold fo
  by_cases h : a = 0
  · subst h; simp
  · rw [if_neg h, if_neg (by omega), if_neg (by omega)]; omega
theorem fo_add2 (a b : Int) (ha : 0 ≤ a) (hb : 0 ≤ b) : fo (fo a + fo b) = fo (a + b) := by
  rw [fo_add a _ ha (fo_bd b hb).1, Int.add_comm, fo_add b a hb ha, Int.add_comm]

end Go.Proofs.Ytgmpablmkpamaaa
