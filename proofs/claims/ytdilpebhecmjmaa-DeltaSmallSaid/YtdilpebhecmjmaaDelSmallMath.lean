/-
  What is not new is not told. Nothing of the program.
-/
import Derived.Test.YtdilpebhecmjmaaDelBackMath
namespace Go.Proofs.Ytdilpebhecmjmaa
set_option linter.unusedVariables false
set_option linter.unusedSimpArgs false

/-- how many bytes are told -/
def tolds (l : List Pc) : Nat := (l.map fun p => p.data.length).sum
theorem tolds_app (l m : List Pc) : tolds (l ++ m) = tolds l + tolds m := by simp [tolds]
theorem tolds_tell (l : List Pc) (b : Int) : tolds (tellT l b) = tolds l + 1 := by
  rcases tellT_cases l b with e | ⟨l0, p, rfl, hc, e⟩
  · rw [e, tolds_app]; simp [tolds]
  · rw [e, tolds_app, tolds_app]; simp [tolds]; omega
theorem tolds_take (l : List Pc) (k : Nat) (p : Pc) (h : l[k]? = some p) : tolds (l.take (k + 1)) = tolds (l.take k) + p.data.length := by
  rw [List.take_add_one, h, tolds_app]; simp [tolds]
theorem tolds_le (l : List Pc) (k : Nat) : tolds (l.take k) ≤ tolds l := by
  have := tolds_app (l.take k) (l.drop k)
  rw [List.take_append_drop] at this
  omega
theorem best_self (old : List Int) (h : old ≠ []) : ∀ k, 1 ≤ k → bestT old old k = (0, old.length)
  | 0, hk => by omega
  | 1, _ => by
    have hl : 0 < old.length := List.length_pos_iff.2 h
    simp [bestT, alikeT_self, hl]
  | k + 2, _ => by
    have ih := best_self old h (k + 1) (by omega)
    have hl := alikeT_le1 (old.drop (k + 1)) old
    rw [List.length_drop] at hl
    rw [bestT, ih, if_neg (by simp only; omega)]
theorem delta_self (old : List Int) (h : 8 ≤ old.length) : deltaT old old = [⟨true, 0, (old.length : Nat), []⟩] := by
  have hne : old ≠ [] := fun e => by rw [e] at h; simp at h
  have hm : mostT old old = (0, old.length) := by
    unfold mostT
    rw [best_self old hne old.length (by omega), if_pos h]
  unfold deltaT
  rw [goT_copy old old [] (by rw [hm]; simp only; omega), hm]
  simp [goT_nil]
/-- each copy is of eight at least -/
theorem go_copies (old : List Int) : ∀ (N : Nat) (b : List Int) (l : List Pc), b.length ≤ N → (∀ p ∈ l, p.copy = true → 8 ≤ p.len) → ∀ p ∈ goT old b l, p.copy = true → 8 ≤ p.len
  | N, [], l, _, h => by rw [goT_nil]; exact h
  | 0, x :: t, l, hN, h => by simp at hN
  | N + 1, x :: t, l, hN, h => by
    by_cases h0 : (mostT old (x :: t)).2 = 0
    · rw [goT_tell _ _ _ _ h0]
      refine go_copies old N t _ (by simp at hN; omega) ?_
      rcases tellT_cases l x with e | ⟨l0, q, rfl, hc, e⟩
      · rw [e]
        intro p hp
        rcases List.mem_append.1 hp with hp | hp
        · exact h p hp
        · simp at hp; subst hp; intro g; cases g
      · rw [e]
        intro p hp
        rcases List.mem_append.1 hp with hp | hp
        · exact h p (by simp [hp])
        · simp at hp; subst hp; intro g
          have g' : q.copy = true := g
          rw [hc] at g'; cases g'
    · rw [goT_copy _ _ _ h0]
      obtain ⟨q1, q2⟩ := mostT_len old (x :: t)
      have h8 : 8 ≤ (mostT old (x :: t)).2 := by
        rcases mostT_8 old (x :: t) with e | e
        · exact absurd e h0
        · exact e
      refine go_copies old N _ _ (by rw [List.length_drop]; simp at hN ⊢; omega) ?_
      intro p hp
      rcases List.mem_append.1 hp with hp | hp
      · exact h p hp
      · simp at hp; subst hp; intro _; simp only; omega
/-- how many bytes are told at most from place i on, where k bytes of the old file stand ahead of a new ones, of N in all -/
def fewF (k a N i : Nat) : Nat := min 7 (k - i) + min a (k + a - i) + min 7 (N - i)
theorem few_told {k a N i : Nat} (h1 : i < k → k - i ≤ 7) (h2 : k + a ≤ i → N - i ≤ 7) (h3 : i < N) : fewF k a N (i + 1) + 1 ≤ fewF k a N i := by
  unfold fewF; omega
theorem few_less {k a N i n : Nat} : fewF k a N (i + n) ≤ fewF k a N i := by
  unfold fewF; omega
theorem alike_same (a b c : List Int) : a.length ≤ alikeT (a ++ b) (a ++ c) := alikeT_app a b c
theorem small_told (old add : List Int) (k : Nat) (hk : k ≤ old.length) : ∀ (M i : Nat) (l : List Pc), i ≤ old.length + add.length → old.length + add.length - i ≤ M →
    tolds (goT old ((old.take k ++ add ++ old.drop k).drop i) l) ≤ tolds l + fewF k add.length (old.length + add.length) i := by
  obtain ⟨now, hnow⟩ : ∃ now, now = old.take k ++ add ++ old.drop k := ⟨_, rfl⟩
  have hN : now.length = old.length + add.length := by rw [hnow]; simp; omega
  rw [← hnow]
  intro M
  induction M with
  | zero =>
    intro i l h1 h2
    rw [List.drop_of_length_le (by rw [hN]; omega), goT_nil]
    omega
  | succ M ih =>
    intro i l h1 h2
    rcases Nat.lt_or_ge i now.length with hi | hi
    · have hd : now.drop i = now[i] :: now.drop (i + 1) := List.drop_eq_getElem_cons hi
      by_cases h0 : (mostT old (now.drop i)).2 = 0
      · have hno : ∀ j, ¬ 8 ≤ alikeT (old.drop j) (now.drop i) := fun j hj => by
          have := mostT_max old (now.drop i) j hj
          omega
        have c1 : i < k → k - i ≤ 7 := fun hik => Classical.byContradiction fun hn => by
          refine hno i ?_
          have e1 : old.drop i = (old.take k).drop i ++ old.drop k := by
            have := List.take_append_drop k old
            conv => lhs; rw [← this]
            rw [List.drop_append_of_le_length (by rw [List.length_take]; omega)]
          have e2 : now.drop i = (old.take k).drop i ++ (add ++ old.drop k) := by
            rw [hnow, List.append_assoc, List.drop_append_of_le_length (by rw [List.length_take]; omega)]
          rw [e1, e2]
          have := alikeT_app ((old.take k).drop i) (old.drop k) (add ++ old.drop k)
          rw [List.length_drop, List.length_take] at this
          omega
        have c2 : k + add.length ≤ i → now.length - i ≤ 7 := fun hki => Classical.byContradiction fun hn => by
          obtain ⟨j, rfl⟩ : ∃ j, i = k + add.length + j := ⟨i - (k + add.length), by omega⟩
          refine hno (k + j) ?_
          have e2 : now.drop (k + add.length + j) = old.drop (k + j) := by
            have hl : (old.take k ++ add).length = k + add.length := by rw [List.length_append, List.length_take]; omega
            rw [hnow, ← hl, List.drop_append, List.drop_drop]
            have : (old.take k ++ add).drop ((old.take k ++ add).length + j) = [] := List.drop_of_length_le (by omega)
            simp [this, hl, Nat.add_comm]
          rw [e2, alikeT_self, List.length_drop]
          omega
        rw [hd, goT_tell _ _ _ _ (by rw [← hd]; exact h0)]
        have h5 := ih (i + 1) (tellT l now[i]) (by omega) (by omega)
        have h6 := few_told (k := k) (a := add.length) (N := old.length + add.length) (i := i) c1 (by rw [← hN]; exact c2) (by omega)
        rw [tolds_tell] at h5
        omega
      · rw [goT_copy _ _ _ h0, List.drop_drop]
        obtain ⟨q1, q2⟩ := mostT_len old (now.drop i)
        rw [List.length_drop] at q1
        have h5 := ih (i + (mostT old (now.drop i)).2) (l ++ [⟨true, (mostT old (now.drop i)).1, (mostT old (now.drop i)).2, []⟩]) (by omega) (by omega)
        have h6 := few_less (k := k) (a := add.length) (N := old.length + add.length) (i := i) (n := (mostT old (now.drop i)).2)
        rw [tolds_app] at h5
        have h7 : tolds [⟨true, ((mostT old (now.drop i)).1 : Nat), ((mostT old (now.drop i)).2 : Nat), []⟩] = 0 := by simp [tolds]
        rw [h7] at h5
        omega
    · rw [List.drop_of_length_le hi, goT_nil]
      omega
theorem delta_small (old add : List Int) (k : Nat) (hk : k ≤ old.length) : tolds (deltaT old (old.take k ++ add ++ old.drop k)) ≤ add.length + 14 ∧ ∀ p ∈ deltaT old (old.take k ++ add ++ old.drop k), p.copy = true → 8 ≤ p.len := by
  refine ⟨?_, go_copies old _ _ [] (Nat.le_refl _) (by simp)⟩
  have := small_told old add k hk (old.length + add.length) 0 [] (Nat.zero_le _) (by omega)
  rw [List.drop_zero] at this
  unfold deltaT
  have h2 : fewF k add.length (old.length + add.length) 0 ≤ add.length + 14 := by unfold fewF; omega
  have h3 : tolds [] = 0 := rfl
  omega

end Go.Proofs.Ytdilpebhecmjmaa
