/-
  Patterns of names: the parts of a pattern, and of which names they are. Mathematics alone.
-/
import Derived.Test.YtmcgjkhbljdddaaPathMath
namespace Go.Proofs.Ytmcgjkhbljdddaa
set_option linter.unusedVariables false
set_option linter.unusedSimpArgs false

/-- a part as the document has it: its kind, its byte, its ranges, whether others -/
structure Gi where
  kind : UInt8
  one : UInt8
  rgs : List (UInt8 × UInt8)
  neg : Bool
/-- a part as the program has it: whether it is a run; the bytes that it is of -/
structure Gp where
  run : Bool
  of : UInt8 → Bool

def inR (rs : List (UInt8 × UInt8)) (b : UInt8) : Bool := rs.any fun r => decide (r.1 ≤ b) && decide (b ≤ r.2)
def takesG (it : Gi) (b : UInt8) : Bool := if it.kind = 63 then true else if it.kind = 61 then decide (b = it.one) else inR it.rgs b != it.neg
def gpOf (it : Gi) : Gp := ⟨decide (it.kind = 42), takesG it⟩

/-- the ranges of a set -/
def rgT : Byt → Option (List (UInt8 × UInt8))
  | [] => some []
  | [a] => some [(a, a)]
  | [a, x] => some [(a, a), (x, x)]
  | a :: x :: b :: r => if x = 45 then (if b < a then none else (rgT r).map ((a, b) :: ·)) else (rgT (x :: b :: r)).map ((a, a) :: ·)
/-- the bytes of a set -/
def bodyT (u : Byt) : Byt := u.takeWhile fun b => b != 93 && b != 92
/-- a set, behind its [ -/
def setU (t : Byt) : Byt := if t.head? = some 94 then t.tail else t
def setE (u : Byt) : Byt := u.drop (bodyT u).length
def setT (t : Byt) : Option (Gi × Byt) :=
  match rgT (bodyT (setU t)) with
  | none => none
  | some rs => if rs = [] ∨ (setE (setU t)).head? ≠ some 93 then none else some (⟨91, 0, rs, decide (t.head? = some 94)⟩, (setE (setU t)).tail)
/-- the part with which bytes begin, and what is behind it -/
def fsT : Byt → Option (Gi × Byt)
  | [] => none
  | c :: t =>
    if c = 42 ∨ c = 63 then some (⟨c, 0, [], false⟩, t)
    else if c = 92 then (match t with | [] => none | b :: r => some (⟨61, b, [], false⟩, r))
    else if c = 91 then setT t
    else some (⟨61, c, [], false⟩, t)
theorem fsT_any {c : UInt8} (t : Byt) (h : c = 42 ∨ c = 63) : fsT (c :: t) = some (⟨c, 0, [], false⟩, t) := by simp only [fsT]; rw [if_pos h]
theorem fsT_esc (b : UInt8) (r : Byt) : fsT (92 :: b :: r) = some (⟨61, b, [], false⟩, r) := rfl
theorem fsT_esc0 : fsT [92] = none := rfl
theorem fsT_set (t : Byt) : fsT (91 :: t) = setT t := rfl
theorem fsT_one {c : UInt8} (t : Byt) (h1 : c ≠ 42) (h2 : c ≠ 63) (h3 : c ≠ 92) (h4 : c ≠ 91) : fsT (c :: t) = some (⟨61, c, [], false⟩, t) := by
  simp only [fsT]; rw [if_neg (by simp [h1, h2]), if_neg h3, if_neg h4]
theorem setU_len (t : Byt) : (setU t).length ≤ t.length := by
  unfold setU
  split
  · rw [List.length_tail]; omega
  · exact Nat.le_refl _
theorem setT_lt {t r : Byt} {it : Gi} (h : setT t = some (it, r)) : r.length ≤ t.length := by
  unfold setT at h
  rcases hr : rgT (bodyT (setU t)) with _ | rs
  · rw [hr] at h; cases h
  · rw [hr] at h
    simp only [] at h
    by_cases h4 : rs = [] ∨ (setE (setU t)).head? ≠ some 93
    · rw [if_pos h4] at h; cases h
    · rw [if_neg h4] at h
      injection h with h; injection h with e1 e2; subst e2
      have := setU_len t
      rw [List.length_tail, setE, List.length_drop]; omega
def itF : Nat → Byt → Option (List Gi)
  | 0, _ => some []
  | n + 1, s =>
    match s with
    | [] => some []
    | c :: t =>
      match fsT (c :: t) with
      | none => none
      | some (it, r) => (itF n r).map (it :: ·)
/-- all parts of bytes -/
def itT (s : Byt) : Option (List Gi) := itF s.length s
/-- the parts of a pattern -/
def patT (s : Byt) : Option (List Gi) := if 40 < s.length then none else itT s

theorem fsT_lt {s r : Byt} {it : Gi} (h : fsT s = some (it, r)) : r.length < s.length := by
  rcases s with _ | ⟨c, t⟩
  · cases h
  · by_cases h1 : c = 42 ∨ c = 63
    · rw [fsT_any t h1] at h; injection h with h; injection h with e1 e2; subst e2; simp
    · by_cases h2 : c = 92
      · subst h2
        rcases t with _ | ⟨b, t⟩
        · cases h
        · rw [fsT_esc] at h; injection h with h; injection h with e1 e2; subst e2; simp; omega
      · by_cases h3 : c = 91
        · subst h3
          rw [fsT_set] at h
          have := setT_lt h
          simp; omega
        · rw [fsT_one t (fun e => h1 (.inl e)) (fun e => h1 (.inr e)) h2 h3] at h; injection h with h; injection h with e1 e2; subst e2; simp
theorem itF_more : ∀ (n : Nat) (s : Byt), s.length ≤ n → itF n s = itF s.length s
  | 0, [], _ => rfl
  | 0, c :: t, h => by simp at h
  | n + 1, [], _ => rfl
  | n + 1, c :: t, h => by
    rw [List.length_cons]
    simp only [itF]
    rcases hf : fsT (c :: t) with _ | ⟨it, r⟩
    · rfl
    · have hl := fsT_lt hf
      simp only [List.length_cons] at hl h
      simp only []
      rw [itF_more n r (by omega), itF_more t.length r (by omega)]
theorem itT_nil : itT [] = some [] := rfl
theorem itT_cons (c : UInt8) (t : Byt) : itT (c :: t) = match fsT (c :: t) with | none => none | some (it, r) => (itT r).map (it :: ·) := by
  unfold itT
  rw [List.length_cons]
  simp only [itF]
  rcases hf : fsT (c :: t) with _ | ⟨it, r⟩
  · rfl
  · have hl := fsT_lt hf
    simp only [List.length_cons] at hl
    simp only []
    rw [itF_more t.length r (by omega)]
theorem itT_some {s r : Byt} {it : Gi} (h : fsT s = some (it, r)) : itT s = (itT r).map (it :: ·) := by
  rcases s with _ | ⟨c, t⟩
  · cases h
  · rw [itT_cons, h]
theorem itT_none {s : Byt} (h : fsT s = none) (hs : s ≠ []) : itT s = none := by
  rcases s with _ | ⟨c, t⟩
  · exact absurd rfl hs
  · rw [itT_cons, h]

/-- whether parts are of a name -/
def mt : List Gp → Byt → Bool
  | [], s => s.isEmpty
  | p :: ps, s => if p.run then (List.range (s.length + 1)).any fun j => mt ps (s.drop j) else
    match s with
    | [] => false
    | b :: r => p.of b && mt ps r
theorem mt_run {p : Gp} {ps : List Gp} {s : Byt} (h : p.run = true) : mt (p :: ps) s = true ↔ ∃ j, j ≤ s.length ∧ mt ps (s.drop j) = true := by
  simp only [mt, h, if_true, List.any_eq_true, List.mem_range]
  constructor
  · rintro ⟨j, h1, h2⟩; exact ⟨j, by omega, h2⟩
  · rintro ⟨j, h1, h2⟩; exact ⟨j, by omega, h2⟩
theorem mt_one {p : Gp} {ps : List Gp} {s : Byt} (h : p.run = false) : mt (p :: ps) s = true ↔ ∃ b r, s = b :: r ∧ p.of b = true ∧ mt ps r = true := by
  rcases s with _ | ⟨b, r⟩
  · simp [mt, h]
  · simp only [mt, h, Bool.false_eq_true, if_false, Bool.and_eq_true]
    constructor
    · rintro ⟨h1, h2⟩; exact ⟨b, r, rfl, h1, h2⟩
    · rintro ⟨b', r', e, h1, h2⟩
      injection e with e1 e2; subst e1; subst e2
      exact ⟨h1, h2⟩
theorem mt_nil (s : Byt) : mt [] s = true ↔ s = [] := by simp [mt]
theorem mt_app : ∀ (ps qs : List Gp) (s : Byt), mt (ps ++ qs) s = true ↔ ∃ i, i ≤ s.length ∧ mt ps (s.take i) = true ∧ mt qs (s.drop i) = true
  | [], qs, s => by
    simp only [List.nil_append, mt_nil]
    constructor
    · intro h; exact ⟨0, by omega, by simp, by simpa using h⟩
    · rintro ⟨i, h1, h2, h3⟩
      rcases i with _ | i
      · simpa using h3
      · rcases s with _ | ⟨b, r⟩
        · simpa using h3
        · simp at h2
  | p :: ps, qs, s => by
    rw [List.cons_append]
    by_cases h : p.run = true
    · rw [mt_run h]
      constructor
      · rintro ⟨j, h1, h2⟩
        obtain ⟨i, g1, g2, g3⟩ := (mt_app ps qs _).1 h2
        rw [List.length_drop] at g1
        refine ⟨j + i, by omega, (mt_run h).2 ⟨j, by rw [List.length_take]; omega, ?_⟩, by rwa [List.drop_drop] at g3⟩
        rwa [List.drop_take, Nat.add_sub_cancel_left]
      · rintro ⟨i, h1, h2, h3⟩
        obtain ⟨j, g1, g2⟩ := (mt_run h).1 h2
        rw [List.length_take] at g1
        rw [List.drop_take] at g2
        exact ⟨j, by omega, (mt_app ps qs _).2 ⟨i - j, by rw [List.length_drop]; omega, g2, by rw [List.drop_drop, show j + (i - j) = i from by omega]; exact h3⟩⟩
    · simp only [Bool.not_eq_true] at h
      rw [mt_one h]
      constructor
      · rintro ⟨b, r, rfl, h2, h3⟩
        obtain ⟨i, g1, g2, g3⟩ := (mt_app ps qs _).1 h3
        exact ⟨i + 1, by simpa using g1, (mt_one h).2 ⟨b, _, List.take_succ_cons, h2, g2⟩, by simpa using g3⟩
      · rintro ⟨i, h1, h2, h3⟩
        obtain ⟨b, r, g1, g2, g3⟩ := (mt_one h).1 h2
        rcases s with _ | ⟨c, t⟩
        · simp at g1
        · rcases i with _ | i
          · simp at g1
          · rw [List.take_succ_cons] at g1
            injection g1 with e1 e2
            subst e1; subst e2
            exact ⟨c, t, rfl, g2, (mt_app ps qs _).2 ⟨i, by simpa using h1, g3, by simpa using h3⟩⟩
theorem mt_two (p : Gp) (x : Byt) : mt [p] x = true ↔ (p.run = true ∨ ∃ b, x = [b] ∧ p.of b = true) := by
  by_cases h : p.run = true
  · rw [mt_run h]
    simp only [h, true_or, iff_true]
    exact ⟨x.length, Nat.le_refl _, by rw [List.drop_length]; rfl⟩
  · simp only [Bool.not_eq_true] at h
    rw [mt_one h]
    simp only [mt_nil, h]
    constructor
    · rintro ⟨b, r, rfl, h1, rfl⟩; exact .inr ⟨b, rfl, h1⟩
    · rintro (h1 | ⟨b, rfl, h1⟩)
      · cases h1
      · exact ⟨b, [], rfl, h1, rfl⟩
theorem mt_rev1 (p : Gp) (x : Byt) : mt [p] x.reverse = true ↔ mt [p] x = true := by
  rw [mt_two, mt_two]
  constructor
  · rintro (h | ⟨b, h1, h2⟩)
    · exact .inl h
    · exact .inr ⟨b, by have := congrArg List.reverse h1; simpa using this, h2⟩
  · rintro (h | ⟨b, rfl, h2⟩)
    · exact .inl h
    · exact .inr ⟨b, rfl, h2⟩
theorem mt_reverse : ∀ (ps : List Gp) (s : Byt), mt ps.reverse s.reverse = true ↔ mt ps s = true
  | [], s => by simp [mt_nil]
  | p :: ps, s => by
    rw [List.reverse_cons, mt_app, show p :: ps = [p] ++ ps from rfl, mt_app]
    constructor
    · rintro ⟨i, h1, h2, h3⟩
      rw [List.length_reverse] at h1
      refine ⟨s.length - i, by omega, ?_, ?_⟩
      · rw [List.drop_reverse, mt_rev1] at h3; exact h3
      · rw [List.take_reverse, mt_reverse ps] at h2; exact h2
    · rintro ⟨i, h1, h2, h3⟩
      refine ⟨s.length - i, by rw [List.length_reverse]; omega, ?_, ?_⟩
      · rw [List.take_reverse, mt_reverse ps, show s.length - (s.length - i) = i from by omega]; exact h3
      · rw [List.drop_reverse, mt_rev1, show s.length - (s.length - i) = i from by omega]; exact h2

/-- the last part, by what is ahead of it -/
theorem mt_snoc_run (ps : List Gp) (p : Gp) (h : p.run = true) (s : Byt) (k : Nat) (hk : k ≤ s.length) :
    mt (ps ++ [p]) (s.take k) = true ↔ (mt ps (s.take k) = true ∨ (0 < k ∧ mt (ps ++ [p]) (s.take (k - 1)) = true)) := by
  rw [mt_app, mt_app]
  constructor
  · rintro ⟨i, h1, h2, -⟩
    rw [List.length_take] at h1
    rw [List.take_take] at h2
    by_cases hik : i = k
    · left; rw [hik, Nat.min_self] at h2; exact h2
    · right
      refine ⟨by omega, i, by rw [List.length_take]; omega, ?_, (mt_two _ _).2 (.inl h)⟩
      rw [List.take_take, show min i (k - 1) = min i k from by omega]; exact h2
  · rintro (h1 | ⟨h0, i, h1, h2, -⟩)
    · exact ⟨k, by rw [List.length_take]; omega, by rw [List.take_take, Nat.min_self]; exact h1, (mt_two _ _).2 (.inl h)⟩
    · rw [List.length_take] at h1
      rw [List.take_take] at h2
      exact ⟨i, by rw [List.length_take]; omega, by rw [List.take_take, show min i k = min i (k - 1) from by omega]; exact h2, (mt_two _ _).2 (.inl h)⟩
theorem mt_snoc_one (ps : List Gp) (p : Gp) (h : p.run = false) (s : Byt) (k : Nat) (hk : k ≤ s.length) :
    mt (ps ++ [p]) (s.take k) = true ↔ (0 < k ∧ mt ps (s.take (k - 1)) = true ∧ p.of (s.getD (k - 1) 0) = true) := by
  rw [mt_app]
  constructor
  · rintro ⟨i, h1, h2, h3⟩
    rw [List.length_take] at h1
    rcases (mt_two _ _).1 h3 with h3 | ⟨b, h3, h4⟩
    · rw [h] at h3; cases h3
    · have hl := congrArg List.length h3
      rw [List.length_drop, List.length_take] at hl
      simp only [List.length_singleton] at hl
      obtain rfl : i = k - 1 := by omega
      refine ⟨by omega, by rw [List.take_take, show min (k - 1) k = k - 1 from by omega] at h2; exact h2, ?_⟩
      have hb : (s.take k)[k - 1]? = some b := by
        have := congrArg (fun l => l[0]?) h3
        simpa using this
      rw [List.getElem?_take] at hb
      rw [if_pos (by omega)] at hb
      rw [List.getD_eq_getElem?_getD, hb]; exact h4
  · rintro ⟨h0, h1, h2⟩
    refine ⟨k - 1, by rw [List.length_take]; omega, by rw [List.take_take, show min (k - 1) k = k - 1 from by omega]; exact h1, (mt_two _ _).2 (.inr ⟨s.getD (k - 1) 0, ?_, h2⟩)⟩
    rw [List.drop_take, show k - (k - 1) = 1 from by omega, List.drop_eq_getElem_cons (by omega)]
    rw [List.getD_eq_getElem?_getD, List.getElem?_eq_getElem (by omega), List.take_succ_cons]; rfl

/-- one way on: what the program looks for; behind: what is behind the last run that was passed -/
structure At (ps : List Gp) (s : Byt) (here at_ : Nat) (last : Option (Nat × Nat)) : Prop where
  hh : here ≤ ps.length
  ha : at_ ≤ s.length
  out : last = none → (mt ps s = true ↔ mt (ps.drop here) (s.drop at_) = true)
  inn : ∀ b t, last = some (b, t) → b ≤ here ∧ at_ = t + (here - b) ∧ (∀ j, b ≤ j → j < here → ∀ p, ps[j]? = some p → p.run = false) ∧
    (mt ps s = true ↔ (mt (ps.drop here) (s.drop at_) = true ∨ ∃ j, t < j ∧ j ≤ s.length ∧ mt (ps.drop b) (s.drop j) = true))
theorem at_start (ps : List Gp) (s : Byt) : At ps s 0 0 none := ⟨by omega, by omega, fun _ => by simp, fun _ _ h => by cases h⟩
/-- single parts take a byte each -/
theorem mt_singles : ∀ (m : Nat) (ps : List Gp) (s : Byt), (∀ j, j < m → ∀ p, ps[j]? = some p → p.run = false) → m ≤ ps.length → mt ps s = true → m ≤ s.length ∧ mt (ps.drop m) (s.drop m) = true
  | 0, ps, s, _, _, h => ⟨by omega, by simpa using h⟩
  | m + 1, [], s, _, hm, _ => by simp at hm
  | m + 1, p :: ps, s, hs, hm, h => by
    have hp : p.run = false := hs 0 (by omega) p rfl
    obtain ⟨b, r, rfl, h1, h2⟩ := (mt_one hp).1 h
    obtain ⟨g1, g2⟩ := mt_singles m ps r (fun j hj q hq => hs (j + 1) (by omega) q (by simpa using hq)) (by simpa using hm) h2
    exact ⟨by simpa using g1, by simpa using g2⟩
/-- what an earlier run would find behind single parts -/
theorem later {ps : List Gp} {s : Byt} {b here : Nat} (hb : b ≤ here) (hh : here ≤ ps.length) (hs : ∀ j, b ≤ j → j < here → ∀ p, ps[j]? = some p → p.run = false) {j : Nat} (hj : mt (ps.drop b) (s.drop j) = true) (hjl : j ≤ s.length) :
    j + (here - b) ≤ s.length ∧ mt (ps.drop here) (s.drop (j + (here - b))) = true := by
  obtain ⟨g1, g2⟩ := mt_singles (here - b) (ps.drop b) (s.drop j) (fun i hi p hp => hs (b + i) (by omega) (by omega) p (by rw [List.getElem?_drop] at hp; exact hp)) (by rw [List.length_drop]; omega) hj
  rw [List.length_drop] at g1
  rw [List.drop_drop, List.drop_drop, show b + (here - b) = here from by omega] at g2
  exact ⟨by omega, g2⟩
theorem drop_get {α : Type} {l : List α} {k : Nat} {x : α} (h : l[k]? = some x) : l.drop k = x :: l.drop (k + 1) := by
  obtain ⟨hk, rfl⟩ := List.getElem?_eq_some_iff.1 h
  exact List.drop_eq_getElem_cons hk
/-- a run is passed -/
theorem At.run {ps : List Gp} {s : Byt} {here a : Nat} {last : Option (Nat × Nat)} (h : At ps s here a last) {p : Gp} (hp : ps[here]? = some p) (hr : p.run = true) : At ps s (here + 1) a (some (here + 1, a)) := by
  have hd := drop_get hp
  have hlt := (List.getElem?_eq_some_iff.1 hp).1
  refine ⟨by omega, h.ha, fun e => (by cases e), fun b t e => ?_⟩
  injection e with e; injection e with e1 e2; subst e1; subst e2
  refine ⟨Nat.le_refl _, by omega, fun j h1 h2 => by omega, ?_⟩
  have key : mt (ps.drop here) (s.drop a) = true ↔ (mt (ps.drop (here + 1)) (s.drop a) = true ∨ ∃ j, a < j ∧ j ≤ s.length ∧ mt (ps.drop (here + 1)) (s.drop j) = true) := by
    rw [hd, mt_run hr]
    constructor
    · rintro ⟨j, h1, h2⟩
      rw [List.length_drop] at h1
      rw [List.drop_drop] at h2
      rcases j with _ | j
      · exact .inl h2
      · exact .inr ⟨a + (j + 1), by omega, by have := h.ha; omega, h2⟩
    · rintro (h1 | ⟨j, h1, h2, h3⟩)
      · exact ⟨0, by omega, by simpa using h1⟩
      · exact ⟨j - a, by rw [List.length_drop]; omega, by rw [List.drop_drop, show a + (j - a) = j from by omega]; exact h3⟩
  rcases last with _ | ⟨b, t⟩
  · rw [h.out rfl, key]
  · obtain ⟨g1, g2, g3, g4⟩ := h.inn b t rfl
    rw [g4, key]
    constructor
    · rintro (q | ⟨j, q1, q2, q3⟩)
      · exact q
      · obtain ⟨w1, w2⟩ := later g1 h.hh g3 q3 q2
        rw [hd] at w2
        obtain ⟨i, v1, v2⟩ := (mt_run hr).1 w2
        rw [List.length_drop] at v1
        rw [List.drop_drop] at v2
        exact .inr ⟨_, by omega, by omega, v2⟩
    · exact .inl
/-- a single part takes its byte -/
theorem At.step {ps : List Gp} {s : Byt} {here a : Nat} {last : Option (Nat × Nat)} (h : At ps s here a last) {p : Gp} (hp : ps[here]? = some p) (hr : p.run = false) (hal : a < s.length) (hof : p.of (s.getD a 0) = true) : At ps s (here + 1) (a + 1) last := by
  have hd := drop_get hp
  have hlt := (List.getElem?_eq_some_iff.1 hp).1
  have hs : s.drop a = s.getD a 0 :: s.drop (a + 1) := drop_get (by rw [List.getD_eq_getElem?_getD, List.getElem?_eq_getElem hal]; rfl)
  have key : mt (ps.drop here) (s.drop a) = true ↔ mt (ps.drop (here + 1)) (s.drop (a + 1)) = true := by
    rw [hd, hs, mt_one hr]
    constructor
    · rintro ⟨b, r, e, h1, h2⟩
      injection e with e1 e2; subst e1; subst e2; exact h2
    · intro h1; exact ⟨_, _, rfl, hof, h1⟩
  refine ⟨by omega, by omega, fun e => by rw [h.out e, key], fun b t e => ?_⟩
  obtain ⟨g1, g2, g3, g4⟩ := h.inn b t e
  refine ⟨by omega, by omega, fun j h1 h2 q hq => ?_, by rw [g4, key]⟩
  by_cases hj : j = here
  · subst hj; rw [hp] at hq; injection hq with hq; subst hq; exact hr
  · exact g3 j h1 (by omega) q hq
/-- nothing fits here -/
theorem no_fit {ps : List Gp} {s : Byt} {here a : Nat} (hal : a < s.length) (hn : ∀ p, ps[here]? = some p → p.run = false ∧ p.of (s.getD a 0) = false) : mt (ps.drop here) (s.drop a) = false := by
  have hs : s.drop a = s.getD a 0 :: s.drop (a + 1) := drop_get (by rw [List.getD_eq_getElem?_getD, List.getElem?_eq_getElem hal]; rfl)
  rw [Bool.eq_false_iff]
  intro hm
  rcases hp : ps[here]? with _ | p
  · rw [List.drop_eq_nil_of_le (List.getElem?_eq_none_iff.1 hp), mt_nil, hs] at hm
    cases hm
  · obtain ⟨h1, h2⟩ := hn p hp
    rw [drop_get hp, hs] at hm
    obtain ⟨b, r, e, g1, g2⟩ := (mt_one h1).1 hm
    injection e with e1 e2; subst e1
    rw [h2] at g1; cases g1
theorem At.fails {ps : List Gp} {s : Byt} {here a : Nat} (h : At ps s here a none) (hal : a < s.length) (hn : ∀ p, ps[here]? = some p → p.run = false ∧ p.of (s.getD a 0) = false) : mt ps s = false := by
  rw [Bool.eq_false_iff]
  intro hm
  rw [h.out rfl, no_fit hal hn] at hm
  cases hm
theorem At.back {ps : List Gp} {s : Byt} {here a b t : Nat} (h : At ps s here a (some (b, t))) (hal : a < s.length) (hn : ∀ p, ps[here]? = some p → p.run = false ∧ p.of (s.getD a 0) = false) : At ps s b (t + 1) (some (b, t + 1)) := by
  obtain ⟨g1, g2, g3, g4⟩ := h.inn b t rfl
  refine ⟨by have := h.hh; omega, by omega, fun e => (by cases e), fun b' t' e => ?_⟩
  injection e with e; injection e with e1 e2; subst e1; subst e2
  refine ⟨Nat.le_refl _, by omega, fun j h1 h2 => by omega, ?_⟩
  rw [g4, no_fit hal hn]
  constructor
  · rintro (q | ⟨j, q1, q2, q3⟩)
    · cases q
    · by_cases hj : j = t + 1
      · subst hj; exact .inl q3
      · exact .inr ⟨j, by omega, q2, q3⟩
  · rintro (q | ⟨j, q1, q2, q3⟩)
    · exact .inr ⟨t + 1, by omega, by omega, q⟩
    · exact .inr ⟨j, by omega, q2, q3⟩
theorem mt_empty (ps : List Gp) : mt ps [] = ps.all (fun p => p.run) := by
  rw [Bool.eq_iff_iff]
  induction ps with
  | nil => simp [mt]
  | cons p r ih =>
    by_cases h : p.run = true
    · rw [mt_run h]
      simp only [List.all_cons, h, Bool.true_and, ← ih]
      constructor
      · rintro ⟨j, h1, h2⟩; simpa using h2
      · intro h1; exact ⟨0, by simp, by simpa using h1⟩
    · simp only [Bool.not_eq_true] at h
      rw [mt_one h]
      simp [h]
theorem At.ends {ps : List Gp} {s : Byt} {here a : Nat} {last : Option (Nat × Nat)} (h : At ps s here a last) (hal : a = s.length) : mt ps s = (ps.drop here).all (fun p => p.run) := by
  rw [← mt_empty, Bool.eq_iff_iff]
  have hn : s.drop a = [] := by rw [hal, List.drop_length]
  rcases last with _ | ⟨b, t⟩
  · rw [h.out rfl, hn]
  · obtain ⟨g1, g2, g3, g4⟩ := h.inn b t rfl
    rw [g4, hn]
    constructor
    · rintro (q | ⟨j, q1, q2, q3⟩)
      · exact q
      · obtain ⟨w1, w2⟩ := later g1 h.hh g3 q3 q2
        omega
    · exact .inl
end Go.Proofs.Ytmcgjkhbljdddaa
