/-
  Mathematics of windows: what signals make of them.
-/
import Derived.Lib.Hide
namespace Go.Proofs.Ytjaaijobdccclaa
set_option linter.unusedVariables false

/-- how wide: Window, Slow, Again -/
structure Wd where
  win : Int
  slow : Int
  again : Int
deriving DecidableEq

def wd0 : Wd := ⟨1, 64, 0⟩
def cap (n : Int) : Int := if n < 64 then n + 1 else n
/-- one that is heard -/
def ack1 (x : Wd) : Wd :=
  if x.win < x.slow then ⟨cap x.win, x.slow, x.again⟩
  else if x.win ≤ x.again + 1 then ⟨cap x.win, x.slow, 0⟩
  else ⟨x.win, x.slow, x.again + 1⟩
def acks : Nat → Wd → Wd
  | 0, x => x
  | n + 1, x => acks n (ack1 x)
def half (n : Int) : Int := max (n / 2) 2
def lose (x : Wd) : Wd := ⟨half x.win, half x.win, 0⟩
def late (x : Wd) : Wd := ⟨1, half x.win, 0⟩
/-- a signal: Kind, Count -/
abbrev Sig := Int × Int
def sigCode (g : Sig) : Int := if g.1 < 1 ∨ 3 < g.1 then 3 else if g.1 = 1 ∧ (g.2 < 1 ∨ 64 < g.2) then 2 else 0
def sigStep (x : Wd) (g : Sig) : Wd := if g.1 = 1 then acks g.2.toNat x else if g.1 = 2 then lose x else late x
/-- how wide behind each -/
def plays : Wd → List Sig → List Wd
  | _, [] => []
  | x, g :: t => sigStep x g :: plays (sigStep x g) t
def after (x : Wd) (l : List Sig) : Wd := l.foldl sigStep x
def okSigs (l : List Sig) : Prop := ∀ g ∈ l, sigCode g = 0

structure Good (x : Wd) : Prop where
  w0 : 1 ≤ x.win
  w1 : x.win ≤ 64
  s0 : 2 ≤ x.slow
  s1 : x.slow ≤ 64
  a0 : 0 ≤ x.again
  a1 : x.again < x.win

theorem good0 : Good wd0 := by constructor <;> decide
theorem cap_bd {n : Int} (h0 : 1 ≤ n) (h1 : n ≤ 64) : n ≤ cap n ∧ cap n ≤ 64 := by unfold cap; split <;> omega
theorem half_bd {n : Int} (h1 : n ≤ 64) : 2 ≤ half n ∧ half n ≤ 64 ∧ half n ≤ max n 2 := by unfold half; omega
theorem ack1_good {x : Wd} (h : Good x) : Good (ack1 x) ∧ x.win ≤ (ack1 x).win ∧ (ack1 x).slow = x.slow := by
  obtain ⟨w0, w1, s0, s1, a0, a1⟩ := h
  have c := cap_bd w0 w1
  unfold ack1
  split
  · exact ⟨⟨by simp only; omega, c.2, s0, s1, a0, by simp only; omega⟩, c.1, rfl⟩
  · split
    · exact ⟨⟨by simp only; omega, c.2, s0, s1, by simp, by simp only; omega⟩, c.1, rfl⟩
    · exact ⟨⟨w0, w1, s0, s1, by simp only; omega, by simp only; omega⟩, Int.le_refl _, rfl⟩
theorem acks_good : ∀ (n : Nat) {x : Wd}, Good x → Good (acks n x) ∧ x.win ≤ (acks n x).win ∧ (acks n x).slow = x.slow
  | 0, x, h => ⟨h, Int.le_refl _, rfl⟩
  | n + 1, x, h => by
    obtain ⟨g, m, s⟩ := ack1_good h
    obtain ⟨g2, m2, s2⟩ := acks_good n g
    exact ⟨g2, Int.le_trans m m2, s2.trans s⟩
theorem lose_good {x : Wd} (h : Good x) : Good (lose x) ∧ (lose x).win ≤ max x.win 2 := by
  have b := half_bd h.w1
  exact ⟨⟨by simp only [lose]; omega, b.2.1, b.1, b.2.1, by simp [lose], by simp only [lose]; omega⟩, b.2.2⟩
theorem late_good {x : Wd} (h : Good x) : Good (late x) ∧ (late x).win ≤ max x.win 2 := by
  have b := half_bd h.w1
  exact ⟨⟨by simp [late], by simp [late], b.1, b.2.1, by simp [late], by simp [late]⟩, by simp only [late]; omega⟩
theorem step_good {x : Wd} (h : Good x) (g : Sig) : Good (sigStep x g) ∧ (g.1 = 1 → x.win ≤ (sigStep x g).win) ∧ (g.1 ≠ 1 → (sigStep x g).win ≤ max x.win 2) := by
  unfold sigStep
  split
  · rename_i h1; exact ⟨(acks_good _ h).1, fun _ => (acks_good _ h).2.1, fun h2 => absurd h1 h2⟩
  · split
    · rename_i h1 _; exact ⟨(lose_good h).1, fun h2 => absurd h2 h1, fun _ => (lose_good h).2⟩
    · rename_i h1 _; exact ⟨(late_good h).1, fun h2 => absurd h2 h1, fun _ => (late_good h).2⟩

theorem acks_add (n m : Nat) (x : Wd) : acks (n + m) x = acks m (acks n x) := by
  induction n generalizing x with
  | zero => simp [acks]
  | succ n ih => rw [Nat.succ_add]; exact ih (ack1 x)
theorem acks_succ (n : Nat) (x : Wd) : acks (n + 1) x = ack1 (acks n x) := acks_add n 1 x

theorem plays_len : ∀ (x : Wd) (l : List Sig), (plays x l).length = l.length
  | _, [] => rfl
  | x, g :: t => by simp [plays, plays_len _ t]
theorem after_cons (x : Wd) (g : Sig) (t : List Sig) : after x (g :: t) = after (sigStep x g) t := rfl
theorem after_app (x : Wd) (l m : List Sig) : after x (l ++ m) = after (after x l) m := List.foldl_append
theorem plays_app : ∀ (x : Wd) (l m : List Sig), plays x (l ++ m) = plays x l ++ plays (after x l) m
  | x, [], m => rfl
  | x, g :: t, m => by simp only [List.cons_append, plays, plays_app _ t m]; rfl
theorem plays_take : ∀ (x : Wd) (l : List Sig) (k : Nat), plays x (l.take k) = (plays x l).take k
  | x, l, 0 => by simp [plays]
  | x, [], k + 1 => rfl
  | x, g :: t, k + 1 => by simp only [List.take_succ_cons, plays, plays_take _ t k]
/-- the k-th answer -/
theorem plays_get (x : Wd) (l : List Sig) (k : Nat) (h : k < l.length) : (plays x l)[k]? = some (after x (l.take (k + 1))) := by
  induction l generalizing x k with
  | nil => simp at h
  | cons g t ih =>
    cases k with
    | zero => rfl
    | succ k =>
      have := ih (sigStep x g) k (by simpa using h)
      simpa [plays, after] using this
theorem after_good : ∀ {x : Wd} (l : List Sig), Good x → Good (after x l)
  | x, [], h => h
  | x, g :: t, h => after_good t (step_good h g).1

/-! ### a round above the bound -/
theorem round_part {W S : Int} (h : S ≤ W) : ∀ (j : Nat), (j : Int) < W → acks j ⟨W, S, 0⟩ = ⟨W, S, j⟩
  | 0, _ => rfl
  | j + 1, hj => by
    rw [acks_succ, round_part h j (by omega)]
    unfold ack1
    rw [if_neg (by simp only; omega), if_neg (by simp only; omega)]
    rfl
theorem round_all {W S : Int} (h : S ≤ W) (h0 : 1 ≤ W) : acks W.toNat ⟨W, S, 0⟩ = ⟨cap W, S, 0⟩ := by
  obtain ⟨j, hj⟩ : ∃ j : Nat, W.toNat = j + 1 := ⟨W.toNat - 1, by omega⟩
  rw [hj, acks_succ, round_part h j (by omega)]
  unfold ack1
  rw [if_neg (by simp only; omega), if_pos (by simp only; omega)]
theorem cap_min {W : Int} (h : W ≤ 64) : cap W = min (W + 1) 64 := by unfold cap; split <;> omega
theorem late_ack {x : Wd} (h : Good x) : (acks 1 (late x)).win = 2 := by
  have b := half_bd h.w1
  have : acks 1 (late x) = ack1 (late x) := rfl
  rw [this]
  unfold ack1 late
  rw [if_pos (by simp only; omega)]
  rfl

/-! ### two who lose at the same time -/
theorem half_near (a b : Int) : max (half a - half b) (half b - half a) ≤ (max (a - b) (b - a) + 1) / 2 := by unfold half; omega

/-- many at once are many one by one -/
theorem ones_after (k : Nat) (x : Wd) : after x (List.replicate k ((1 : Int), (1 : Int))) = acks k x := by
  induction k generalizing x with
  | zero => rfl
  | succ k ih =>
    rw [List.replicate_succ, after_cons, ih]
    rfl

end Go.Proofs.Ytjaaijobdccclaa
