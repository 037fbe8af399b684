/-
  Sets: what the program cuts out against what a set is. Mathematics alone.
-/
import Derived.Test.YtmcgjkhbljdddaaGlobMath
namespace Go.Proofs.Ytmcgjkhbljdddaa
set_option linter.unusedVariables false
set_option linter.unusedSimpArgs false

/-- the bytes ahead of the first ] -/
def innT (u : Byt) : Byt := u.takeWhile (· != 93)
theorem inn_none : ∀ {u : Byt}, 93 ∉ u → innT u = u
  | [], _ => rfl
  | b :: t, h => by
    simp only [List.mem_cons, not_or] at h
    have hb : b ≠ 93 := fun q => h.1 q.symm
    have e : innT (b :: t) = b :: innT t := by simp [innT, hb]
    rw [e, inn_none h.2]
theorem inn_some : ∀ {u : Byt}, 93 ∈ u → ∃ r, u = innT u ++ 93 :: r ∧ 93 ∉ innT u
  | b :: t, h => by
    by_cases hb : b = 93
    · subst hb; exact ⟨t, by simp [innT], by simp [innT]⟩
    · have ht : 93 ∈ t := by
        rcases List.mem_cons.1 h with e | e
        · exact absurd e.symm hb
        · exact e
      obtain ⟨r, h1, h2⟩ := inn_some ht
      have e : innT (b :: t) = b :: innT t := by simp [innT, hb]
      rw [e]
      exact ⟨r, by rw [List.cons_append, ← h1], by simp only [List.mem_cons, not_or]; exact ⟨fun q => hb q.symm, h2⟩⟩
/-- a list of bytes in which the program finds ranges -/
def lstT (l : Byt) : Option Gp := if l = [] ∨ 92 ∈ l then none else match rgT l with | none => none | some rs => some ⟨false, inR rs⟩

/-- the first range of a list, and how many bytes it has -/
def nxN (l : Byt) : Nat := if 2 < l.length ∧ l.getD 1 0 = 45 then 3 else 1
theorem rgT_step : ∀ {l : Byt}, l ≠ [] → rgT l = if l.getD (nxN l - 1) 0 < l.getD 0 0 then none else (rgT (l.drop (nxN l))).map ((l.getD 0 0, l.getD (nxN l - 1) 0) :: ·)
  | [], h => absurd rfl h
  | [a], _ => by simp [nxN, rgT]
  | [a, x], _ => by simp [nxN, rgT]
  | a :: x :: b :: r, _ => by
    by_cases h : x = 45
    · subst h
      simp [nxN, rgT]
    · simp [nxN, rgT, h]
theorem nx_le {l : Byt} (h : l ≠ []) : nxN l ≤ l.length ∧ 1 ≤ nxN l := by
  unfold nxN
  have := List.length_pos_iff.2 h
  split
  · omega
  · omega
theorem rgT_ne {l : Byt} {rs : List (UInt8 × UInt8)} (h : rgT l = some rs) : rs = [] ↔ l = [] := by
  by_cases hl : l = []
  · subst hl; injection h with h; subst h; simp
  · rw [rgT_step hl] at h
    split at h
    · cases h
    · rcases hr : rgT (l.drop (nxN l)) with _ | q
      · rw [hr] at h; cases h
      · rw [hr] at h; injection h with h; subst h; simp [hl]

theorem body_inn {u : Byt} (h : 92 ∉ innT u) : bodyT u = innT u := by
  induction u with
  | nil => rfl
  | cons b t ih =>
    by_cases hb : b = 93
    · subst hb; simp [bodyT, innT]
    · have e : innT (b :: t) = b :: innT t := by simp [innT, hb]
      rw [e] at h ⊢
      simp only [List.mem_cons, not_or] at h
      have hb2 : b ≠ 92 := fun q => h.1 q.symm
      have e2 : bodyT (b :: t) = b :: bodyT t := by simp [bodyT, hb, hb2]
      rw [e2, ih h.2]
theorem body_esc {u : Byt} (h : 92 ∈ innT u) : (setE u).head? = some 92 := by
  unfold setE
  induction u with
  | nil => simp [innT] at h
  | cons b t ih =>
    by_cases hb : b = 93
    · subst hb; simp [innT] at h
    · have e : innT (b :: t) = b :: innT t := by simp [innT, hb]
      rw [e] at h
      by_cases hb2 : b = 92
      · subst hb2; simp [bodyT]
      · have e2 : bodyT (b :: t) = b :: bodyT t := by simp [bodyT, hb, hb2]
        rw [e2, List.length_cons, List.drop_succ_cons]
        refine ih ?_
        rcases List.mem_cons.1 h with q | q
        · exact absurd q.symm hb2
        · exact q
theorem setE_end {u : Byt} (h : 92 ∉ innT u) (h3 : 93 ∉ u) : (setE u).head? ≠ some 93 := by
  unfold setE
  rw [body_inn h, inn_none h3, List.drop_length]; simp
theorem setE_at {u : Byt} (h : 92 ∉ innT u) (h3 : 93 ∈ u) : (setE u).head? = some 93 ∧ (setE u).tail = u.drop ((innT u).length + 1) := by
  unfold setE
  rw [body_inn h]
  obtain ⟨r, h1, h2⟩ := inn_some h3
  have e : u.drop (innT u).length = 93 :: r := by
    obtain ⟨x, hx⟩ : ∃ x, x = innT u := ⟨_, rfl⟩
    rw [← hx] at h1 ⊢
    rw [h1, List.drop_left' rfl]
  rw [e]
  refine ⟨rfl, ?_⟩
  rw [← List.drop_drop, e]; rfl

/-- what the program has of a set: whether others, the list -/
def othT (t : Byt) : Bool := decide ((innT t).head? = some 94)
def lisT (t : Byt) : Byt := if othT t then (innT t).tail else innT t
theorem oth_is (t : Byt) : othT t = decide (t.head? = some 94) := by
  unfold othT
  rcases t with _ | ⟨b, r⟩
  · rfl
  · by_cases hb : b = 93
    · subst hb; simp [innT]
    · simp [innT, hb]
theorem lis_is (t : Byt) : lisT t = innT (setU t) := by
  unfold lisT setU
  rw [oth_is]
  rcases t with _ | ⟨b, r⟩
  · simp
  · by_cases hb : b = 94
    · subst hb; simp [innT]
    · simp [hb]
theorem lis_len (t : Byt) : (innT t).length = (lisT t).length + (if othT t then 1 else 0) := by
  unfold lisT
  by_cases h : othT t = true
  · rw [if_pos h, if_pos h, List.length_tail]
    have : innT t ≠ [] := by
      intro e
      unfold othT at h
      rw [e] at h; simp at h
    have := List.length_pos_iff.2 this
    omega
  · rw [if_neg h, if_neg h]; rfl
theorem setU_mem (t : Byt) : 93 ∈ setU t ↔ 93 ∈ t := by
  unfold setU
  rcases t with _ | ⟨b, r⟩
  · simp
  · by_cases hb : b = 94
    · subst hb; simp
    · simp [hb]
theorem setU_drop (t : Byt) (k : Nat) : (setU t).drop k = t.drop (k + (if othT t then 1 else 0)) := by
  rw [oth_is]
  unfold setU
  rcases t with _ | ⟨b, r⟩
  · simp
  · by_cases hb : b = 94
    · subst hb; simp
    · simp [hb]
theorem lstT_none {l : Byt} (h : lstT l = none) : l = [] ∨ 92 ∈ l ∨ rgT l = none := by
  unfold lstT at h
  by_cases h1 : l = [] ∨ 92 ∈ l
  · rcases h1 with h1 | h1
    · exact .inl h1
    · exact .inr (.inl h1)
  · rw [if_neg h1] at h
    rcases hr : rgT l with _ | rs
    · exact .inr (.inr rfl)
    · rw [hr] at h; cases h
theorem lstT_some {l : Byt} {p : Gp} (h : lstT l = some p) : l ≠ [] ∧ 92 ∉ l ∧ ∃ rs, rgT l = some rs ∧ p = ⟨false, inR rs⟩ := by
  unfold lstT at h
  by_cases h1 : l = [] ∨ 92 ∈ l
  · rw [if_pos h1] at h; cases h
  · rw [if_neg h1] at h
    rcases hr : rgT l with _ | rs
    · rw [hr] at h; cases h
    · rw [hr] at h
      injection h with h
      exact ⟨fun e => h1 (.inl e), fun e => h1 (.inr e), rs, rfl, h.symm⟩
theorem setT_off {t : Byt} (h : (93 ∉ t) ∨ lstT (lisT t) = none) : setT t = none := by
  have hl := lis_is t
  unfold setT
  by_cases h92 : 92 ∈ lisT t
  · have := body_esc (by rw [← hl]; exact h92)
    rcases rgT (bodyT (setU t)) with _ | rs
    · rfl
    · simp only []
      rw [if_pos (.inr (by rw [this]; decide))]
  · have hb := body_inn (u := setU t) (by rw [← hl]; exact h92)
    rw [hb, ← hl]
    rcases hr : rgT (lisT t) with _ | rs
    · rfl
    · simp only []
      rcases h with h | h
      · have := setE_end (u := setU t) (by rw [← hl]; exact h92) (fun q => h ((setU_mem t).1 q))
        rw [if_pos (.inr this)]
      · rcases lstT_none h with h | h | h
        · rw [if_pos (.inl ((rgT_ne hr).2 h))]
        · exact absurd h h92
        · rw [hr] at h; cases h
theorem setT_on {t : Byt} {rs : List (UInt8 × UInt8)} (h3 : 93 ∈ t) (h0 : lisT t ≠ []) (h92 : 92 ∉ lisT t) (hr : rgT (lisT t) = some rs) : setT t = some (⟨91, 0, rs, othT t⟩, t.drop ((innT t).length + 1)) := by
  have hl := lis_is t
  have ho := oth_is t
  unfold setT
  have hb := body_inn (u := setU t) (by rw [← hl]; exact h92)
  rw [hb, ← hl, hr]
  simp only []
  have hrs : rs ≠ [] := fun e => h0 ((rgT_ne hr).1 e)
  obtain ⟨e1, e2⟩ := setE_at (u := setU t) (by rw [← hl]; exact h92) ((setU_mem t).2 h3)
  rw [if_neg (by simp [hrs, e1]), e2, ← hl, setU_drop, lis_len, ho]
  congr 3
  omega
/-- the program's part of a set -/
theorem gp_set (t : Byt) (rs : List (UInt8 × UInt8)) : gpOf ⟨91, 0, rs, othT t⟩ = if othT t then ⟨false, fun b => !inR rs b⟩ else ⟨false, inR rs⟩ := by
  cases othT t <;> simp [gpOf] <;> (funext b; cases h : inR rs b <;> simp [takesG, h])
end Go.Proofs.Ytmcgjkhbljdddaa
