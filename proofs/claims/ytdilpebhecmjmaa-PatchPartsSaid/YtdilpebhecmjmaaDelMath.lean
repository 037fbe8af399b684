/-
  What is new in a file: the pure model. Nothing of the program.
-/
namespace Go.Proofs.Ytdilpebhecmjmaa
set_option linter.unusedVariables false
set_option linter.unusedSimpArgs false

/-- a piece -/
structure Pc where
  copy : Bool
  from_ : Int
  len : Int
  data : List Int
deriving DecidableEq

/-- with how many of the same numbers both begin -/
def alikeT : List Int → List Int → Nat
  | x :: s, y :: t => if x = y then alikeT s t + 1 else 0
  | _, _ => 0
theorem alikeT_le1 : ∀ a b : List Int, alikeT a b ≤ a.length
  | [], b => by simp [alikeT]
  | x :: s, [] => by simp [alikeT]
  | x :: s, y :: t => by
    simp only [alikeT]; split
    · have := alikeT_le1 s t; simp; exact this
    · exact Nat.zero_le _
theorem alikeT_le2 : ∀ a b : List Int, alikeT a b ≤ b.length
  | [], b => by simp [alikeT]
  | x :: s, [] => by simp [alikeT]
  | x :: s, y :: t => by
    simp only [alikeT]; split
    · have := alikeT_le2 s t; simp; exact this
    · exact Nat.zero_le _
theorem alikeT_take : ∀ a b : List Int, a.take (alikeT a b) = b.take (alikeT a b)
  | [], b => by simp [alikeT]
  | x :: s, [] => by simp [alikeT]
  | x :: s, y :: t => by
    simp only [alikeT]; split
    · rename_i h; subst h; simp [alikeT_take s t]
    · simp
theorem alikeT_self : ∀ a : List Int, alikeT a a = a.length
  | [] => rfl
  | x :: s => by simp [alikeT, alikeT_self s]
/-- n of them are the same if the first n are -/
theorem alikeT_ge : ∀ (n : Nat) (a b : List Int), n ≤ a.length → n ≤ b.length → (n ≤ alikeT a b ↔ a.take n = b.take n)
  | 0, a, b, _, _ => by simp
  | n + 1, [], b, h, _ => by simp at h
  | n + 1, x :: s, [], _, h => by simp at h
  | n + 1, x :: s, y :: t, h1, h2 => by
    simp only [alikeT, List.take_succ_cons, List.cons.injEq]
    have ih := alikeT_ge n s t (by simpa using h1) (by simpa using h2)
    split
    · rename_i h; simp [h, ih]
    · rename_i h; simp [h]
theorem alikeT_app (a b c : List Int) : a.length ≤ alikeT (a ++ b) (a ++ c) := by
  induction a with
  | nil => simp
  | cons x s ih => simp [alikeT]; exact ih
/-- how far a walk has come that compares one by one -/
theorem alikeT_step (a b : List Int) (n : Nat) (h : n ≤ alikeT a b) :
    (∀ x y, a[n]? = some x → b[n]? = some y → x = y → n + 1 ≤ alikeT a b) ∧ ((a[n]? = none ∨ b[n]? = none ∨ a[n]? ≠ b[n]?) → alikeT a b = n) := by
  induction n generalizing a b with
  | zero =>
    rcases a with _ | ⟨x, s⟩
    · exact ⟨fun x y h => by simp at h, fun _ => rfl⟩
    rcases b with _ | ⟨y, t⟩
    · exact ⟨fun x y _ h => by simp at h, fun _ => rfl⟩
    refine ⟨fun x' y' h1 h2 e => ?_, fun h => ?_⟩
    · simp at h1 h2; subst h1; subst h2; subst e; simp [alikeT]
    · simp at h; simp [alikeT, h]
  | succ n ih =>
    rcases a with _ | ⟨x, s⟩
    · simp [alikeT] at h
    rcases b with _ | ⟨y, t⟩
    · simp [alikeT] at h
    by_cases e : x = y
    · simp only [alikeT, if_pos e] at h ⊢
      have := ih s t (by omega)
      refine ⟨fun x' y' h1 h2 e' => ?_, fun h' => ?_⟩
      · have := this.1 x' y' (by simpa using h1) (by simpa using h2) e'; omega
      · have := this.2 (by simpa using h'); omega
    · simp [alikeT, e] at h

/-- the first place with the most of the numbers b, of the first k places of old: from where on, and how many -/
def bestT (old b : List Int) : Nat → Nat × Nat
  | 0 => (0, 0)
  | k + 1 => if (bestT old b k).2 < alikeT (old.drop k) b then (k, alikeT (old.drop k) b) else bestT old b k
/-- the same of places ps alone -/
def foldT (old b : List Int) : List Nat → Nat × Nat → Nat × Nat
  | [], m => m
  | k :: t, m => foldT old b t (if m.2 < alikeT (old.drop k) b then (k, alikeT (old.drop k) b) else m)
theorem foldT_app (old b : List Int) : ∀ (l m : List Nat) (s : Nat × Nat), foldT old b (l ++ m) s = foldT old b m (foldT old b l s)
  | [], m, s => rfl
  | k :: t, m, s => foldT_app old b t m _
/-- the places, of the first k, where the run b begins -/
def placesT (old b : List Int) (k : Nat) : List Nat := (List.range k).filter fun i => decide (i + 8 ≤ old.length ∧ (old.drop i).take 8 = b)
theorem placesT_succ (old b : List Int) (k : Nat) : placesT old b (k + 1) = placesT old b k ++ (if k + 8 ≤ old.length ∧ (old.drop k).take 8 = b then [k] else []) := by
  unfold placesT
  rw [List.range_succ, List.filter_append]
  congr 1
  by_cases h : k + 8 ≤ old.length ∧ (old.drop k).take 8 = b
  · rw [if_pos h, List.filter_cons_of_pos (by simpa using h)]; rfl
  · rw [if_neg h, List.filter_cons_of_neg (by simpa using h)]; rfl
theorem placesT_len (old b : List Int) (k : Nat) : (placesT old b k).length ≤ k := by
  unfold placesT
  have := List.length_filter_le (fun i => decide (i + 8 ≤ old.length ∧ (old.drop i).take 8 = b)) (List.range k)
  simpa using this
theorem placesT_lt {old b : List Int} {k i : Nat} (h : i ∈ placesT old b k) : i < k := by
  unfold placesT at h
  simp at h; exact h.1
/-- of what is at least eight long those places are all -/
theorem fold_best (old b : List Int) (hb : 8 ≤ b.length) (k : Nat) :
    (foldT old b (placesT old (b.take 8) k) (0, 0) = bestT old b k ∧ 8 ≤ (bestT old b k).2) ∨ (foldT old b (placesT old (b.take 8) k) (0, 0) = (0, 0) ∧ (bestT old b k).2 < 8) := by
  induction k with
  | zero => right; exact ⟨rfl, by simp [bestT]⟩
  | succ k ih =>
    rw [placesT_succ, foldT_app]
    have hiff : (k + 8 ≤ old.length ∧ (old.drop k).take 8 = b.take 8) ↔ 8 ≤ alikeT (old.drop k) b := by
      constructor
      · rintro ⟨h1, h2⟩
        exact (alikeT_ge 8 _ _ (by simp; omega) hb).2 h2
      · intro h
        have h1 := alikeT_le1 (old.drop k) b
        simp at h1
        exact ⟨by omega, (alikeT_ge 8 _ _ (by simp; omega) hb).1 h⟩
    by_cases hk : 8 ≤ alikeT (old.drop k) b
    · rw [if_pos (hiff.2 hk)]
      left
      rcases ih with ⟨e, h⟩ | ⟨e, h⟩
      · rw [e]
        refine ⟨by simp only [foldT, bestT], ?_⟩
        simp only [bestT]; split
        · exact hk
        · exact h
      · rw [e]
        have h1 : (bestT old b k).2 < alikeT (old.drop k) b := by omega
        have h2 : 0 < alikeT (old.drop k) b := by omega
        simp only [foldT, bestT, if_pos h1, if_pos h2]
        exact ⟨trivial, hk⟩
    · rw [if_neg (fun h => hk (hiff.1 h))]
      simp only [foldT]
      rcases ih with ⟨e, h⟩ | ⟨e, h⟩
      · left
        have h1 : ¬ (bestT old b k).2 < alikeT (old.drop k) b := by omega
        simp only [bestT, if_neg h1]
        exact ⟨e, h⟩
      · right
        refine ⟨e, ?_⟩
        simp only [bestT]; split
        · show alikeT (old.drop k) b < 8; omega
        · exact h
theorem bestT_lt (old b : List Int) : ∀ k, (bestT old b k).2 = 0 ∨ (bestT old b k).1 < k
  | 0 => .inl rfl
  | k + 1 => by
    simp only [bestT]; split
    · right; simp
    · rcases bestT_lt old b k with h | h
      · exact .inl h
      · right; omega
theorem bestT_eq (old b : List Int) : ∀ k, (bestT old b k).2 = 0 ∨ (bestT old b k).2 = alikeT (old.drop (bestT old b k).1) b
  | 0 => .inl rfl
  | k + 1 => by
    simp only [bestT]; split
    · right; rfl
    · exact bestT_eq old b k
theorem bestT_max (old b : List Int) : ∀ k i, i < k → alikeT (old.drop i) b ≤ (bestT old b k).2
  | 0, i, h => by omega
  | k + 1, i, h => by
    simp only [bestT]
    rcases Nat.lt_succ_iff_lt_or_eq.1 h with g | g
    · have := bestT_max old b k i g
      split
      · simp only []; omega
      · exact this
    · subst g
      split
      · exact Nat.le_refl _
      · omega

/-- what most of the numbers b stand in old: at least eight, or nothing -/
def mostT (old b : List Int) : Nat × Nat := if 8 ≤ (bestT old b old.length).2 then bestT old b old.length else (0, 0)
theorem mostT_len (old b : List Int) : (mostT old b).2 ≤ b.length ∧ (mostT old b).1 + (mostT old b).2 ≤ old.length := by
  unfold mostT
  split
  · rename_i h
    rcases bestT_eq old b old.length with e | e
    · omega
    · have h1 := alikeT_le1 (old.drop (bestT old b old.length).1) b
      have h2 := alikeT_le2 (old.drop (bestT old b old.length).1) b
      simp at h1
      rw [e]
      exact ⟨h2, by omega⟩
  · simp
theorem mostT_8 (old b : List Int) : (mostT old b).2 = 0 ∨ 8 ≤ (mostT old b).2 := by
  unfold mostT
  split
  · rename_i h; exact .inr h
  · exact .inl rfl
/-- what is found is there -/
theorem mostT_is (old b : List Int) : (old.drop (mostT old b).1).take (mostT old b).2 = b.take (mostT old b).2 := by
  unfold mostT
  split
  · rename_i h
    rcases bestT_eq old b old.length with e | e
    · omega
    · rw [e]; exact alikeT_take _ _
  · simp
/-- and no place has more, if it has eight -/
theorem mostT_max (old b : List Int) (i : Nat) (h : 8 ≤ alikeT (old.drop i) b) : alikeT (old.drop i) b ≤ (mostT old b).2 := by
  have hi : i < old.length := by
    have := alikeT_le1 (old.drop i) b
    simp at this; omega
  have := bestT_max old b old.length i hi
  unfold mostT
  rw [if_pos (by omega)]
  exact this

theorem mostT_short (old b : List Int) (h : b.length < 8) : mostT old b = (0, 0) := by
  unfold mostT
  rw [if_neg]
  rcases bestT_eq old b old.length with e | e
  · omega
  · have := alikeT_le2 (old.drop (bestT old b old.length).1) b
    omega
theorem fold_most (old b : List Int) (hb : 8 ≤ b.length) : foldT old b (placesT old (b.take 8) old.length) (0, 0) = mostT old b := by
  unfold mostT
  rcases fold_best old b hb old.length with ⟨e, h⟩ | ⟨e, h⟩
  · rw [if_pos h, e]
  · rw [if_neg (by omega), e]
theorem foldT_take (old b : List Int) (ps : List Nat) (k i : Nat) (s : Nat × Nat) (h : ps[k]? = some i) :
    foldT old b (ps.take (k + 1)) s = if (foldT old b (ps.take k) s).2 < alikeT (old.drop i) b then (i, alikeT (old.drop i) b) else foldT old b (ps.take k) s := by
  rw [List.take_add_one, h, foldT_app]; rfl
theorem placesT_in {old b : List Int} {k i : Nat} (h : i ∈ placesT old b k) : i + 8 ≤ old.length := by
  unfold placesT at h
  simp at h; exact h.2.1
theorem foldT_lt (old b : List Int) : ∀ (ps : List Nat) (s : Nat × Nat) (N M : Nat), (∀ i ∈ ps, i ≤ N) → s.1 ≤ N → s.2 ≤ M → b.length ≤ M → (foldT old b ps s).1 ≤ N ∧ (foldT old b ps s).2 ≤ M
  | [], s, N, M, _, h1, h2, _ => ⟨h1, h2⟩
  | i :: t, s, N, M, h, h1, h2, h3 => by
    refine foldT_lt old b t _ N M (fun j hj => h j (by simp [hj])) ?_ ?_ h3
    · split
      · exact h i (by simp)
      · exact h1
    · split
      · have := alikeT_le2 (old.drop i) b; simp only; omega
      · exact h2

/-- one number told behind pieces -/
def tellT (l : List Pc) (b : Int) : List Pc :=
  match l.getLast? with
  | some p => if p.copy then l ++ [⟨false, 0, 0, [b]⟩] else l.dropLast ++ [{ p with data := p.data ++ [b] }]
  | none => [⟨false, 0, 0, [b]⟩]
/-- pieces that make what is left of the new file -/
def goT (old : List Int) : List Int → List Pc → List Pc
  | [], l => l
  | x :: t, l =>
    if (mostT old (x :: t)).2 = 0 then goT old t (tellT l x)
    else goT old ((x :: t).drop (mostT old (x :: t)).2) (l ++ [⟨true, (mostT old (x :: t)).1, (mostT old (x :: t)).2, []⟩])
termination_by b => b.length
decreasing_by
  all_goals simp
  all_goals omega
theorem goT_nil (old : List Int) (l : List Pc) : goT old [] l = l := by unfold goT; rfl
theorem goT_tell (old : List Int) (x : Int) (t : List Int) (l : List Pc) (h : (mostT old (x :: t)).2 = 0) : goT old (x :: t) l = goT old t (tellT l x) := by rw [goT, if_pos h]
theorem goT_copy (old b : List Int) (l : List Pc) (h : (mostT old b).2 ≠ 0) : goT old b l = goT old (b.drop (mostT old b).2) (l ++ [⟨true, (mostT old b).1, (mostT old b).2, []⟩]) := by
  rcases b with _ | ⟨x, t⟩
  · exact absurd (by have := (mostT_len old []).1; simpa using this) h
  · rw [goT, if_neg h]
def deltaT (old now : List Int) : List Pc := goT old now []

/-- the bytes that a piece makes, or why not -/
def madeT (old : List Int) (p : Pc) : Int × List Int :=
  if (p.copy = true ∧ p.data ≠ []) ∨ (p.copy = false ∧ (p.from_ ≠ 0 ∨ p.len ≠ 0)) then (4, [])
  else if p.from_ < 0 ∨ p.len < 0 ∨ (old.length : Int) - p.from_ < p.len then (2, [])
  else if p.copy = true then (0, (old.drop p.from_.toNat).take p.len.toNat) else (0, p.data)
theorem madeT_bad {old : List Int} {p : Pc} (h : (madeT old p).1 ≠ 0) : (madeT old p).2 = [] := by
  unfold madeT at h ⊢
  split
  · rfl
  · rename_i h1
    rw [if_neg h1] at h
    split
    · rfl
    · rename_i h2
      rw [if_neg h2] at h
      split at h <;> simp at h
/-- the bytes that pieces make behind those made -/
def goP (old : List Int) : List Pc → List Int → Int × List Int
  | [], now => (0, now)
  | p :: t, now => if (madeT old p).1 ≠ 0 then ((madeT old p).1, []) else if 2048 < now.length + (madeT old p).2.length then (11, []) else goP old t (now ++ (madeT old p).2)
def patchT (old : List Int) (l : List Pc) : Int × List Int := if 2048 < old.length ∨ 2048 < l.length then (1, []) else goP old l []
theorem goP_at (old : List Int) (l : List Pc) (k : Nat) (p : Pc) (h : l[k]? = some p) (now : List Int) :
    goP old (l.drop k) now = if (madeT old p).1 ≠ 0 then ((madeT old p).1, []) else if 2048 < now.length + (madeT old p).2.length then (11, []) else goP old (l.drop (k + 1)) (now ++ (madeT old p).2) := by
  obtain ⟨hk, he⟩ := List.getElem?_eq_some_iff.1 h
  rw [List.drop_eq_getElem_cons hk, he]; rfl
theorem goP_len (old : List Int) : ∀ (l : List Pc) (now : List Int), now.length ≤ 2048 → (goP old l now).2.length ≤ 2048
  | [], now, h => h
  | p :: t, now, h => by
    unfold goP
    split
    · simp
    · split
      · simp
      · rename_i h2
        exact goP_len old t _ (by simp; omega)
theorem patchT_len (old : List Int) (l : List Pc) : (patchT old l).2.length ≤ 2048 := by
  unfold patchT
  split
  · simp
  · exact goP_len _ _ _ (by simp)
theorem goP_cons (old : List Int) (p : Pc) (t : List Pc) (now : List Int) : goP old (p :: t) now = if (madeT old p).1 ≠ 0 then ((madeT old p).1, []) else if 2048 < now.length + (madeT old p).2.length then (11, []) else goP old t (now ++ (madeT old p).2) := rfl
/-- pieces behind pieces -/
theorem goP_app (old : List Int) : ∀ (l m : List Pc) (now : List Int), (goP old l now).1 = 0 → goP old (l ++ m) now = goP old m (goP old l now).2
  | [], m, now, h => rfl
  | p :: t, m, now, h => by
    rw [List.cons_append, goP_cons]
    rw [goP_cons] at h ⊢
    by_cases h1 : (madeT old p).1 ≠ 0
    · rw [if_pos h1] at h; exact absurd h h1
    · rw [if_neg h1] at h ⊢
      rw [if_neg h1]
      by_cases h2 : 2048 < now.length + (madeT old p).2.length
      · rw [if_pos h2] at h; simp at h
      · rw [if_neg h2] at h ⊢
        rw [if_neg h2]
        exact goP_app old t m _ h
/-- what pieces make, where all of them may be -/
def makesT (old : List Int) (l : List Pc) : List Int := l.flatMap fun p => (madeT old p).2
theorem makesT_app (old : List Int) (l m : List Pc) : makesT old (l ++ m) = makesT old l ++ makesT old m := by simp [makesT]
theorem goP_fine (old : List Int) : ∀ (l : List Pc) (now : List Int), (∀ p ∈ l, (madeT old p).1 = 0) → now.length + (makesT old l).length ≤ 2048 → goP old l now = (0, now ++ makesT old l)
  | [], now, _, _ => by simp [goP, makesT]
  | p :: t, now, h, hl => by
    have e : makesT old (p :: t) = (madeT old p).2 ++ makesT old t := rfl
    rw [e, List.length_append] at hl
    have h1 := h p (by simp)
    rw [goP_cons, if_neg (by rw [h1]; simp), if_neg (by omega), goP_fine old t _ (fun q hq => h q (by simp [hq])) (by rw [List.length_append]; omega), e, List.append_assoc]
theorem patchT_fine (old : List Int) (l : List Pc) (h1 : old.length ≤ 2048) (h2 : l.length ≤ 2048) (h : ∀ p ∈ l, (madeT old p).1 = 0) (hl : (makesT old l).length ≤ 2048) : patchT old l = (0, makesT old l) := by
  unfold patchT
  rw [if_neg (by omega), goP_fine old l [] h (by simpa using hl)]; rfl

end Go.Proofs.Ytdilpebhecmjmaa
