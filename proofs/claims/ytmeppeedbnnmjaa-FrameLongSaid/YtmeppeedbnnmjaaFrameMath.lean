/-
  Frames: plain mathematics. Nothing of the program.
-/
import Derived.WalkKit
import Derived.Lib.Hide
namespace Go.Proofs.Ytmeppeedbnnmjaa
open Go.RowKit
set_option linter.unusedVariables false

/-- the number that the first four bytes are -/
def len4 (z : List Int) : Int := ((z.getD 0 0 * 256 + z.getD 1 0) * 256 + z.getD 2 0) * 256 + z.getD 3 0
def octs (z : List Int) : Prop := ∀ x ∈ z, 0 ≤ x ∧ x ≤ 255
theorem octs.drop {z : List Int} (h : octs z) (k : Nat) : octs (z.drop k) := fun x hx => h x (List.mem_of_mem_drop hx)
theorem octs.take {z : List Int} (h : octs z) (k : Nat) : octs (z.take k) := fun x hx => h x (List.mem_of_mem_take hx)
theorem octs.app {a b : List Int} (h : octs a) (k : octs b) : octs (a ++ b) := fun x hx => (List.mem_append.1 hx).elim (h x) (k x)
theorem octs.get {z : List Int} (h : octs z) (k : Nat) : 0 ≤ z.getD k 0 ∧ z.getD k 0 ≤ 255 := by
  rw [List.getD_eq_getElem?_getD]
  rcases hk : z[k]? with _ | x
  · simp
  · exact h x (List.mem_of_getElem? hk)
theorem len4_bd {z : List Int} (h : octs z) : 0 ≤ len4 z ∧ len4 z ≤ 4294967295 := by
  have := h.get 0; have := h.get 1; have := h.get 2; have := h.get 3
  unfold len4; omega
theorem len4_app {a b : List Int} (h : 4 ≤ a.length) : len4 (a ++ b) = len4 a := by
  have e : ∀ k, k < 4 → (a ++ b).getD k 0 = a.getD k 0 := fun k hk => by
    rw [List.getD_eq_getElem?_getD, List.getD_eq_getElem?_getD, List.getElem?_append_left (by omega)]
  unfold len4
  rw [e 0 (by omega), e 1 (by omega), e 2 (by omega), e 3 (by omega)]

/-- the frames of a stream and what is behind them -/
def pars (z : List Int) : Option (List (List Int) × List Int) :=
  if h4 : z.length < 4 then some ([], z)
  else if 1024 < len4 z then none
  else if z.length < 4 + (len4 z).toNat then some ([], z)
  else match pars (z.drop (4 + (len4 z).toNat)) with
    | none => none
    | some r => some ((z.drop 4).take (len4 z).toNat :: r.1, r.2)
termination_by z.length
decreasing_by simp; omega

theorem pars_short {z : List Int} (h : z.length < 4) : pars z = some ([], z) := by rw [pars, dif_pos h]
theorem pars_long {z : List Int} (h : 4 ≤ z.length) (h1 : 1024 < len4 z) : pars z = none := by rw [pars, dif_neg (by omega), if_pos h1]
theorem pars_part {z : List Int} (h : 4 ≤ z.length) (h1 : ¬ 1024 < len4 z) (h2 : z.length < 4 + (len4 z).toNat) : pars z = some ([], z) := by rw [pars, dif_neg (by omega), if_neg h1, if_pos h2]
theorem pars_step {z : List Int} (h : 4 ≤ z.length) (h1 : ¬ 1024 < len4 z) (h2 : ¬ z.length < 4 + (len4 z).toNat) : pars z = match pars (z.drop (4 + (len4 z).toNat)) with
    | none => none
    | some r => some ((z.drop 4).take (len4 z).toNat :: r.1, r.2) := by rw [pars, dif_neg (by omega), if_neg h1, if_neg h2]

theorem pars_app (n : Nat) : ∀ (y t : List Int), y.length ≤ n → pars (y ++ t) = match pars y with
    | none => none
    | some r => match pars (r.2 ++ t) with
      | none => none
      | some q => some (r.1 ++ q.1, q.2) := by
  induction n with
  | zero =>
    intro y t hy
    rw [pars_short (z := y) (by omega)]
    simp only [List.nil_append]
    rcases pars (y ++ t) with _ | ⟨a, b⟩ <;> rfl
  | succ n ih =>
    intro y t hy
    by_cases h4 : y.length < 4
    · rw [pars_short h4]
      simp only [List.nil_append]
      rcases pars (y ++ t) with _ | ⟨a, b⟩ <;> rfl
    · have e4 : len4 (y ++ t) = len4 y := len4_app (by omega)
      by_cases h1 : 1024 < len4 y
      · rw [pars_long (by omega) h1, pars_long (by simp; omega) (by rw [e4]; exact h1)]
      · by_cases h2 : y.length < 4 + (len4 y).toNat
        · rw [pars_part (by omega) h1 h2]
          simp only [List.nil_append]
          rcases pars (y ++ t) with _ | ⟨a, b⟩ <;> rfl
        · rw [pars_step (by omega) h1 h2, pars_step (z := y ++ t) (by simp; omega) (by rw [e4]; exact h1) (by rw [e4]; simp; omega), e4,
            List.drop_append_of_le_length (by omega), List.drop_append_of_le_length (by omega), List.take_append_of_le_length (by simp; omega), ih _ _ (by simp; omega)]
          rcases pars (y.drop (4 + (len4 y).toNat)) with _ | ⟨a, b⟩
          · rfl
          · simp only
            rcases pars (b ++ t) with _ | ⟨c, d⟩ <;> rfl
theorem pars_app' {y t r : List Int} {o : List (List Int)} (h : pars y = some (o, r)) : pars (y ++ t) = match pars (r ++ t) with
      | none => none
      | some q => some (o ++ q.1, q.2) := by
  rw [pars_app y.length y t (Nat.le_refl _), h]
theorem pars_none {y : List Int} (t : List Int) (h : pars y = none) : pars (y ++ t) = none := by
  rw [pars_app y.length y t (Nat.le_refl _), h]

/-- what is behind is no frame -/
theorem pars_rest (n : Nat) : ∀ (y : List Int), y.length ≤ n → ∀ o r, pars y = some (o, r) → pars r = some ([], r) ∧ r.length ≤ 1027 ∧ r.length ≤ y.length ∧ o.length ≤ y.length ∧ (∀ x ∈ o, x.length ≤ 1024) ∧ (octs y → octs r) := by
  induction n with
  | zero =>
    intro y hy o r h
    rw [pars_short (by omega)] at h
    injection h with h; injection h with h1 h2
    subst h1; subst h2
    exact ⟨pars_short (by omega), by omega, by omega, by simp, by simp, id⟩
  | succ n ih =>
    intro y hy o r h
    by_cases h4 : y.length < 4
    · rw [pars_short h4] at h
      injection h with h; injection h with h1 h2
      subst h1; subst h2
      exact ⟨pars_short h4, by omega, by omega, by simp, by simp, id⟩
    · by_cases h1 : 1024 < len4 y
      · rw [pars_long (by omega) h1] at h; cases h
      · by_cases h2 : y.length < 4 + (len4 y).toNat
        · have h' := h
          rw [pars_part (by omega) h1 h2] at h
          injection h with h; injection h with e1 e2
          subst e1; subst e2
          exact ⟨h', by omega, by omega, by simp, by simp, id⟩
        · rw [pars_step (by omega) h1 h2] at h
          rcases hp : pars (y.drop (4 + (len4 y).toNat)) with _ | ⟨a, b⟩
          · rw [hp] at h; cases h
          · rw [hp] at h
            injection h with h; injection h with e1 e2
            subst e1; subst e2
            obtain ⟨g1, g2, g3, g4, g5, g6⟩ := ih _ (by simp; omega) _ _ hp
            rw [List.length_drop] at g3 g4
            refine ⟨g1, g2, ?_, ?_, fun x hx => ?_, fun h => g6 (h.drop _)⟩
            · simp only; omega
            · simp only [List.length_cons]; omega
            rcases List.mem_cons.1 hx with rfl | hx
            · simp; omega
            · exact g5 x hx

/-- the frame that has b -/
def wrap1 (b : List Int) : List Int := [0, 0, (b.length : Int) / 256, (b.length : Int) % 256] ++ b
theorem wrap1_len (b : List Int) : (wrap1 b).length = 4 + b.length := by simp [wrap1]; omega
theorem wrap1_len4 (b t : List Int) : len4 (wrap1 b ++ t) = b.length := by
  unfold len4 wrap1
  simp
  omega
theorem wrap1_octs {b : List Int} (h : octs b) (hl : b.length ≤ 1024) : octs (wrap1 b) := by
  refine octs.app (fun x hx => ?_) h
  simp at hx
  rcases hx with rfl | rfl | rfl <;> omega
theorem pars_wrap1 (b t : List Int) (h : b.length ≤ 1024) : pars (wrap1 b ++ t) = match pars t with
    | none => none
    | some r => some (b :: r.1, r.2) := by
  have e := wrap1_len4 b t
  have hl : (wrap1 b ++ t).length = 4 + b.length + t.length := by rw [List.length_append, wrap1_len]
  rw [pars_step (by omega) (by rw [e]; omega) (by rw [e]; omega), e]
  have e1 : (wrap1 b ++ t).drop (4 + (b.length : Int).toNat) = t := by
    rw [List.drop_append, wrap1_len]
    simp [List.drop_eq_nil_of_le, wrap1_len]
  have e2 : ((wrap1 b ++ t).drop 4).take (b.length : Int).toNat = b := by
    simp [wrap1]
  rw [e1, e2]
def wraps : List (List Int) → List Int
  | [] => []
  | b :: t => wrap1 b ++ wraps t
theorem wraps_app : ∀ a b : List (List Int), wraps (a ++ b) = wraps a ++ wraps b
  | [], b => rfl
  | x :: t, b => by simp only [List.cons_append, wraps, wraps_app t b, List.append_assoc]
theorem wraps_octs : ∀ {l : List (List Int)}, (∀ b ∈ l, octs b ∧ b.length ≤ 1024) → octs (wraps l)
  | [], _ => fun x hx => by cases hx
  | b :: t, h => octs.app (wrap1_octs (h b (by simp)).1 (h b (by simp)).2) (wraps_octs fun c hc => h c (by simp [hc]))
theorem pars_wraps : ∀ (l : List (List Int)) (t : List Int), (∀ b ∈ l, b.length ≤ 1024) → pars (wraps l ++ t) = match pars t with
    | none => none
    | some r => some (l ++ r.1, r.2)
  | [], t, _ => by
    simp only [wraps, List.nil_append]
    rcases pars t with _ | ⟨a, b⟩ <;> rfl
  | b :: l, t, h => by
    simp only [wraps, List.append_assoc]
    rw [pars_wrap1 b _ (h b (by simp)), pars_wraps l t (fun c hc => h c (by simp [hc]))]
    rcases pars t with _ | ⟨c, d⟩ <;> rfl
theorem pars_wraps0 (l : List (List Int)) (h : ∀ b ∈ l, b.length ≤ 1024) : pars (wraps l) = some (l, []) := by
  have := pars_wraps l [] h
  rw [List.append_nil] at this
  rw [this, pars_short (z := []) (by decide)]
  simp
/-- a frame without its last byte -/
theorem pars_cut (b : List Int) (h : b.length ≤ 1024) : pars ((wrap1 b).take ((wrap1 b).length - 1)) = some ([], (wrap1 b).take ((wrap1 b).length - 1)) := by
  have hl := wrap1_len b
  have hl2 : ((wrap1 b).take ((wrap1 b).length - 1)).length = 3 + b.length := by rw [List.length_take]; omega
  by_cases h0 : b.length = 0
  · exact pars_short (by omega)
  · have e : len4 ((wrap1 b).take ((wrap1 b).length - 1)) = b.length := by
      have e0 := wrap1_len4 b []
      rw [List.append_nil] at e0
      have e1 := len4_app (a := (wrap1 b).take ((wrap1 b).length - 1)) (b := (wrap1 b).drop ((wrap1 b).length - 1)) (by omega)
      rw [List.take_append_drop] at e1
      rw [← e1, e0]
    exact pars_part (by omega) (by rw [e]; omega) (by rw [e]; omega)
/-- one byte more behind what is no frame -/
theorem pars_byte {r : List Int} (x : Int) (h : pars r = some ([], r)) (ho : octs (r ++ [x])) : 4 ≤ (r ++ [x]).length → ¬ 1024 < len4 (r ++ [x]) → (r ++ [x]).length ≤ 4 + (len4 (r ++ [x])).toNat := by
  intro h4 h1
  have hl : (r ++ [x]).length = r.length + 1 := by simp
  by_cases h3 : r.length < 4
  · omega
  · have e : len4 (r ++ [x]) = len4 r := len4_app (by omega)
    rw [e] at h1 ⊢
    by_cases h2 : r.length < 4 + (len4 r).toNat
    · omega
    · rw [pars_step (by omega) h1 h2] at h
      rcases hp : pars (r.drop (4 + (len4 r).toNat)) with _ | ⟨a, b⟩
      · rw [hp] at h; cases h
      · rw [hp] at h; injection h with h; injection h with h _; cases h
theorem pars_full {r : List Int} (h4 : 4 ≤ r.length) (h1 : ¬ 1024 < len4 r) (h2 : r.length = 4 + (len4 r).toNat) : pars r = some ([r.drop 4], []) := by
  rw [pars_step h4 h1 (by omega), List.drop_eq_nil_of_le (by omega), pars_short (by simp), List.take_of_length_le (by simp; omega)]

end Go.Proofs.Ytmeppeedbnnmjaa
