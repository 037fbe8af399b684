/-
  A file, chunk by chunk: what is told, in plain words (nothing of the program).
-/
import Derived.Test.YtjlnjeigoncfoaaKit
namespace Go.Proofs.Ytjlnjeigoncfoaa
set_option linter.unusedVariables false
set_option linter.unusedSimpArgs false

/-- a want: At, Count -/
abbrev Wt := Int × Int
/-- what came of a file, and what is asked for -/
structure Fs where
  dat : List Int
  out : List Wt
  front : Int
  ended : Bool
  fin : Int
/-- what is told of one Got -/
structure Nx where
  code : Int
  wants : List Wt
  done : Bool
  data : List Int
structure Gt where
  at_ : Int
  cnt : Int
  data : List Int

def room : Nat := 2148
def fs0 : Fs := { dat := List.replicate room 0, out := [], front := 0, ended := false, fin := 0 }
def mayOn (s : Fs) : Bool := decide (s.out.length < 6) && (decide (s.front ≤ 2048) && (!s.ended || decide (s.front < s.fin)))
def askOne (s : Fs) : Fs := { s with out := s.out ++ [(s.front, 100)], front := s.front + 100 }
def askOnN : Nat → Fs → Fs
  | 0, s => s
  | n + 1, s => if mayOn s then askOnN n (askOne s) else s
def askOn (s : Fs) : Fs := askOnN 6 s
def came (s : Fs) : Bool := s.ended && !(s.out.any fun w => decide (w.1 < s.fin))
def nextT (known : Nat) (s : Fs) : Nx × Fs :=
  let t := askOn s
  ({ code := 0, wants := t.out.drop known, done := came t, data := if came t then t.dat.take t.fin.toNat else [] }, t)
/-- bytes in their places -/
def splice (l : List Int) (k : Nat) (ys : List Int) : List Int := l.take k ++ ys ++ l.drop (k + ys.length)
def stopT (at_ : Int) (s : Fs) : Fs := if !s.ended || decide (at_ < s.fin) then { s with ended := true, fin := at_ } else s
def askT (w : Wt) (s : Fs) : Fs := { s with out := s.out ++ [w] }
/-- what came of a want, ahead of asking on -/
def gotT (g : Gt) (s : Fs) : Fs :=
  let s1 : Fs := { s with out := s.out.erase (g.at_, g.cnt), dat := splice s.dat g.at_.toNat g.data }
  if g.data.length = 0 then stopT g.at_ s1
  else if (g.data.length : Int) < g.cnt then askT (g.at_ + g.data.length, g.cnt - g.data.length) s1
  else s1
def takeG (s : Fs) (g : Gt) : Nx × Fs :=
  if (g.at_, g.cnt) ∈ s.out then
    if g.cnt < g.data.length then ({ code := 1, wants := [], done := false, data := [] }, s)
    else nextT (s.out.length - 1) (gotT g s)
  else ({ code := 7, wants := [], done := false, data := [] }, s)
def fold (s : Fs) : List Gt → List Nx × Fs
  | [] => ([], s)
  | g :: l => let r := takeG s g; let q := fold r.2 l; (r.1 :: q.1, q.2)
def fetchT (l : List Gt) : List Nx := (nextT 0 fs0).1 :: (fold (nextT 0 fs0).2 l).1

/-- what holds all along -/
structure FsOk (s : Fs) : Prop where
  len : s.dat.length = room
  few : s.out.length ≤ 6
  wants : ∀ w ∈ s.out, 0 ≤ w.1 ∧ 1 ≤ w.2 ∧ w.2 ≤ 100 ∧ w.1 + w.2 ≤ s.front
  f0 : 0 ≤ s.front
  f1 : s.front ≤ 2148
  e0 : 0 ≤ s.fin
  e1 : s.fin ≤ 2148

theorem fsOk0 : FsOk fs0 := by
  refine ⟨List.length_replicate, Nat.zero_le _, (fun w hw => by cases hw), Int.le_refl _, ?_, Int.le_refl _, ?_⟩ <;> (show (0 : Int) ≤ 2148) <;> omega
theorem FsOk.one {s : Fs} (h : FsOk s) (hm : mayOn s = true) : FsOk (askOne s) := by
  simp [mayOn] at hm
  obtain ⟨h1, h2, h3⟩ := hm
  refine ⟨h.len, ?_, ?_, ?_, ?_, h.e0, h.e1⟩
  · simp [askOne]; omega
  · intro w hw
    simp [askOne] at hw ⊢
    have := h.f0
    rcases hw with hw | rfl
    · have := h.wants w hw; omega
    · refine ⟨?_, ?_, ?_, ?_⟩ <;> simp <;> omega
  · have := h.f0; simp [askOne]; omega
  · simp [askOne]; omega
theorem askOnN_ok (n : Nat) : ∀ s, FsOk s → FsOk (askOnN n s) := by
  induction n with
  | zero => intro s h; exact h
  | succ n ih =>
    intro s h
    unfold askOnN
    by_cases hm : mayOn s = true
    · rw [if_pos hm]; exact ih _ (h.one hm)
    · rw [if_neg hm]; exact h
theorem FsOk.on {s : Fs} (h : FsOk s) : FsOk (askOn s) := askOnN_ok 6 s h
theorem askOnN_done (n : Nat) : ∀ s : Fs, 6 ≤ n + s.out.length → mayOn (askOnN n s) = false := by
  induction n with
  | zero =>
    intro s h
    have h1 : ¬ s.out.length < 6 := by omega
    simp [askOnN, mayOn, h1]
  | succ n ih =>
    intro s h
    unfold askOnN
    by_cases hm : mayOn s = true
    · rw [if_pos hm]; exact ih _ (by simp [askOne]; omega)
    · rw [if_neg hm]; simpa using hm
theorem askOn_step {s : Fs} (hm : mayOn s = true) : askOn s = askOn (askOne s) := by
  -- six rounds are enough
  have key : ∀ n (s : Fs), 6 ≤ n + s.out.length → askOnN (n + 1) s = askOnN n s := by
    intro n
    induction n with
    | zero => intro s h; simp [askOnN, mayOn]; intro h1; omega
    | succ n ih =>
      intro s h
      rw [askOnN]
      by_cases hm : mayOn s = true
      · rw [if_pos hm, ih _ (by simp [askOne]; omega)]; rw [askOnN, if_pos hm]
      · rw [if_neg hm, askOnN, if_neg hm]
  unfold askOn
  rw [askOnN, if_pos hm, ← key 5 (askOne s) (by simp [askOne]; omega)]
theorem askOn_stay {s : Fs} (hm : ¬ mayOn s = true) : askOn s = s := by
  unfold askOn askOnN; rw [if_neg hm]

theorem splice_len (l : List Int) (k : Nat) (ys : List Int) (h : k + ys.length ≤ l.length) : (splice l k ys).length = l.length := by
  unfold splice; simp; omega
theorem erase_len {l : List Wt} {w : Wt} (h : w ∈ l) : (l.erase w).length = l.length - 1 := List.length_erase_of_mem h
theorem FsOk.got {s : Fs} (h : FsOk s) (g : Gt) (hg : (g.at_, g.cnt) ∈ s.out) (hn : ¬ g.cnt < g.data.length) : FsOk (gotT g s) := by
  obtain ⟨a0, a1, a2, a3⟩ := h.wants _ hg
  simp only at a0 a1 a2 a3
  have hf1 := h.f1
  have hfew := h.few
  have hel := erase_len hg
  have hpos : 0 < s.out.length := List.length_pos_of_mem hg
  have hl : (splice s.dat g.at_.toNat g.data).length = room := by rw [splice_len _ _ _ (by rw [h.len]; unfold room; omega), h.len]
  have hw : ∀ w ∈ s.out.erase (g.at_, g.cnt), 0 ≤ w.1 ∧ 1 ≤ w.2 ∧ w.2 ≤ 100 ∧ w.1 + w.2 ≤ s.front := fun w hw => h.wants w (List.mem_of_mem_erase hw)
  unfold gotT
  simp only
  split
  · unfold stopT
    split
    · exact ⟨hl, by simp only; omega, hw, h.f0, h.f1, a0, by simp only; omega⟩
    · exact ⟨hl, by simp only; omega, hw, h.f0, h.f1, h.e0, h.e1⟩
  · split
    · refine ⟨hl, ?_, ?_, h.f0, h.f1, h.e0, h.e1⟩
      · simp [askT]; omega
      · intro w hw2
        simp [askT] at hw2 ⊢
        rcases hw2 with hw2 | rfl
        · exact hw w hw2
        · simp; omega
    · exact ⟨hl, by simp only; omega, hw, h.f0, h.f1, h.e0, h.e1⟩
theorem FsOk.take {s : Fs} (h : FsOk s) (g : Gt) : FsOk (takeG s g).2 := by
  unfold takeG
  split
  · rename_i hg
    split
    · exact h
    · rename_i hn; exact (h.got g hg hn).on
  · exact h
theorem fold_ok : ∀ (l : List Gt) (s : Fs), FsOk s → FsOk (fold s l).2 := by
  intro l
  induction l with
  | nil => intro s h; exact h
  | cons g l ih => intro s h; exact ih _ (h.take g)
theorem fold_app : ∀ (l r : List Gt) (s : Fs), fold s (l ++ r) = ((fold s l).1 ++ (fold (fold s l).2 r).1, (fold (fold s l).2 r).2) := by
  intro l
  induction l with
  | nil => intro r s; rfl
  | cons g l ih => intro r s; simp [fold, ih]
theorem fold_snoc (l : List Gt) (g : Gt) (s : Fs) : fold s (l ++ [g]) = ((fold s l).1 ++ [(takeG (fold s l).2 g).1], (takeG (fold s l).2 g).2) := by
  rw [fold_app]; rfl
theorem fold_len : ∀ (l : List Gt) (s : Fs), (fold s l).1.length = l.length := by
  intro l
  induction l with
  | nil => intro s; rfl
  | cons g l ih => intro s; simp [fold, ih]
/-- the state behind so many -/
def stG (l : List Gt) : Fs := (fold (nextT 0 fs0).2 l).2
theorem stG_ok (l : List Gt) : FsOk (stG l) := fold_ok l _ fsOk0.on
theorem stG_snoc (l : List Gt) (g : Gt) : stG (l ++ [g]) = (takeG (stG l) g).2 := by unfold stG; rw [fold_snoc]
theorem fetchT_snoc (l : List Gt) (g : Gt) : fetchT (l ++ [g]) = fetchT l ++ [(takeG (stG l) g).1] := by unfold fetchT stG; rw [fold_snoc]; rfl
theorem fetchT_len (l : List Gt) : (fetchT l).length = l.length + 1 := by unfold fetchT; simp [fold_len]

end Go.Proofs.Ytjlnjeigoncfoaa
