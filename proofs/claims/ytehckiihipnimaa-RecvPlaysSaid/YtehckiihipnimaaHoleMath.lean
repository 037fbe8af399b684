/-
  Plain mathematics of layer 3: ranges beyond a gap as lists of pairs; that a set of places has one such form alone; joining a range in; and the form found by looking at all places where something changes.
-/
namespace Go.Proofs.Ytehckiihipnimaa
set_option linter.unusedVariables false

abbrev Rg := Int × Int

/-- each range has places, is beyond 'lo' and beyond the range ahead of it -/
def Ch : Int → List Rg → Prop
  | _, [] => True
  | lo, x :: t => lo < x.1 ∧ x.1 < x.2 ∧ Ch x.2 t
/-- the same, and none beyond 1048576, as a test -/
def okB : Int → List Rg → Bool
  | _, [] => true
  | lo, x :: t => decide (lo < x.1) && (decide (x.1 < x.2) && (decide (x.2 ≤ 1048576) && okB x.2 t))
def mayB (d : Int) (l : List Rg) : Bool := decide (0 ≤ d) && (decide (d ≤ 1048576) && (decide (l.length ≤ 16) && okB d l))
/-- is the place in one of the ranges? -/
def inR (l : List Rg) (n : Int) : Prop := ∃ x ∈ l, x.1 ≤ n ∧ n < x.2
/-- did the place come? -/
def Came (d : Int) (l : List Rg) (n : Int) : Prop := n < d ∨ inR l n

theorem inR_nil (n : Int) : ¬ inR [] n := by rintro ⟨x, hx, _⟩; cases hx
theorem inR_cons (x : Rg) (t : List Rg) (n : Int) : inR (x :: t) n ↔ (x.1 ≤ n ∧ n < x.2) ∨ inR t n := by
  constructor
  · rintro ⟨y, hy, h⟩
    rcases List.mem_cons.1 hy with rfl | hy
    · exact .inl h
    · exact .inr ⟨y, hy, h⟩
  · rintro (h | ⟨y, hy, h⟩)
    · exact ⟨x, List.mem_cons_self .., h⟩
    · exact ⟨y, List.mem_cons_of_mem _ hy, h⟩
theorem inR_app (a b : List Rg) (n : Int) : inR (a ++ b) n ↔ inR a n ∨ inR b n := by
  constructor
  · rintro ⟨y, hy, h⟩
    rcases List.mem_append.1 hy with hy | hy
    · exact .inl ⟨y, hy, h⟩
    · exact .inr ⟨y, hy, h⟩
  · rintro (⟨y, hy, h⟩ | ⟨y, hy, h⟩)
    · exact ⟨y, List.mem_append_left _ hy, h⟩
    · exact ⟨y, List.mem_append_right _ hy, h⟩
theorem inR_one (x : Rg) (n : Int) : inR [x] n ↔ x.1 ≤ n ∧ n < x.2 := by rw [inR_cons]; simp [inR_nil]

theorem okB_ch : ∀ (l : List Rg) (lo : Int), okB lo l = true → Ch lo l ∧ ∀ x ∈ l, x.2 ≤ 1048576
  | [], _, _ => ⟨trivial, by simp⟩
  | x :: t, lo, h => by
    simp only [okB, Bool.and_eq_true, decide_eq_true_eq] at h
    obtain ⟨h1, h2, h3, h4⟩ := h
    obtain ⟨c, b⟩ := okB_ch t x.2 h4
    refine ⟨⟨h1, h2, c⟩, ?_⟩
    intro y hy
    rcases List.mem_cons.1 hy with rfl | hy
    · exact h3
    · exact b y hy
theorem ch_okB : ∀ (l : List Rg) (lo : Int), Ch lo l → (∀ x ∈ l, x.2 ≤ 1048576) → okB lo l = true
  | [], _, _, _ => rfl
  | x :: t, lo, h, hb => by
    simp only [okB, Bool.and_eq_true, decide_eq_true_eq]
    exact ⟨h.1, h.2.1, hb x (List.mem_cons_self ..), ch_okB t x.2 h.2.2 fun y hy => hb y (List.mem_cons_of_mem _ hy)⟩
theorem ch_lo : ∀ (l : List Rg) (lo : Int), Ch lo l → ∀ x ∈ l, lo < x.1 ∧ x.1 < x.2
  | [], _, _, x, hx => by cases hx
  | y :: t, lo, h, x, hx => by
    rcases List.mem_cons.1 hx with rfl | hx
    · exact ⟨h.1, h.2.1⟩
    · have := ch_lo t y.2 h.2.2 x hx
      have := h.1; have := h.2.1
      omega
theorem ch_in (l : List Rg) (lo : Int) (h : Ch lo l) (n : Int) (hn : inR l n) : lo < n := by
  obtain ⟨x, hx, h1, h2⟩ := hn
  have := ch_lo l lo h x hx
  omega
theorem ch_mono (l : List Rg) (lo lo' : Int) (h : Ch lo l) (hl : lo' ≤ lo) : Ch lo' l := by
  cases l with
  | nil => trivial
  | cons x t => exact ⟨by have := h.1; omega, h.2.1, h.2.2⟩
theorem ch_snoc : ∀ (l : List Rg) (lo : Int) (y : Rg), Ch lo l → lo < y.1 → y.1 < y.2 → (∀ x ∈ l, x.2 < y.1) → Ch lo (l ++ [y])
  | [], _, y, _, h1, h2, _ => ⟨h1, h2, trivial⟩
  | x :: t, lo, y, h, h1, h2, h3 => ⟨h.1, h.2.1, ch_snoc t x.2 y h.2.2 (h3 x (List.mem_cons_self ..)) h2 fun z hz => h3 z (List.mem_cons_of_mem _ hz)⟩
theorem ch_app : ∀ (l : List Rg) (lo : Int) (m : List Rg) (e : Int), Ch lo l → (∀ x ∈ l, x.2 ≤ e) → lo ≤ e → Ch e m → Ch lo (l ++ m)
  | [], lo, m, e, _, _, h, hm => ch_mono m e lo hm h
  | x :: t, lo, m, e, h, hx, _, hm => ⟨h.1, h.2.1, ch_app t x.2 m e h.2.2 (fun z hz => hx z (List.mem_cons_of_mem _ hz)) (hx x (List.mem_cons_self ..)) hm⟩

/-- A SET OF PLACES HAS ONE FORM ALONE. -/
theorem ch_one : ∀ (l m : List Rg) (lo lo' : Int), Ch lo l → Ch lo' m → (∀ n, inR l n ↔ inR m n) → l = m
  | [], [], _, _, _, _, _ => rfl
  | [], y :: t, _, _, _, hm, h => absurd ((h y.1).2 ((inR_cons _ _ _).2 (.inl ⟨by omega, hm.2.1⟩))) (inR_nil _)
  | x :: t, [], _, _, hl, _, h => absurd ((h x.1).1 ((inR_cons _ _ _).2 (.inl ⟨by omega, hl.2.1⟩))) (inR_nil _)
  | x :: t, y :: s, lo, lo', hl, hm, h => by
    obtain ⟨x1, x2⟩ := x
    obtain ⟨y1, y2⟩ := y
    obtain ⟨_, hx, ht⟩ := hl
    obtain ⟨_, hy, hs⟩ := hm
    simp only at hx hy ht hs
    have hit : ∀ n, inR t n → x2 < n := ch_in t x2 ht
    have his : ∀ n, inR s n → y2 < n := ch_in s y2 hs
    have e1 : x1 = y1 := by
      have a := (h x1).1 ((inR_cons _ _ _).2 (.inl ⟨by simp, hx⟩))
      have b := (h y1).2 ((inR_cons _ _ _).2 (.inl ⟨by simp, hy⟩))
      rcases (inR_cons _ _ _).1 a with a | a <;> rcases (inR_cons _ _ _).1 b with b | b
      · simp only at a b; omega
      · have := hit _ b; simp only at a; omega
      · have := his _ a; simp only at b; omega
      · have := hit _ b; have := his _ a; omega
    subst e1
    have e2 : x2 = y2 := by
      rcases Int.lt_trichotomy x2 y2 with c | c | c
      · have a := (h x2).2 ((inR_cons _ _ _).2 (.inl ⟨by simp; omega, c⟩))
        rcases (inR_cons _ _ _).1 a with a | a
        · simp only at a; omega
        · have := hit _ a; omega
      · exact c
      · have a := (h y2).1 ((inR_cons _ _ _).2 (.inl ⟨by simp; omega, c⟩))
        rcases (inR_cons _ _ _).1 a with a | a
        · simp only at a; omega
        · have := his _ a; omega
    subst e2
    have : t = s := by
      refine ch_one t s x2 x2 ht hs fun n => ⟨fun g => ?_, fun g => ?_⟩
      · rcases (inR_cons _ _ _).1 ((h n).1 ((inR_cons _ _ _).2 (.inr g))) with a | a
        · have := hit _ g; simp only at a; omega
        · exact a
      · rcases (inR_cons _ _ _).1 ((h n).2 ((inR_cons _ _ _).2 (.inr g))) with a | a
        · have := his _ g; simp only at a; omega
        · exact a
    rw [this]

theorem came_one (d d' : Int) (l m : List Rg) (hl : Ch d l) (hm : Ch d' m) (h : ∀ n, Came d l n ↔ Came d' m n) : d = d' ∧ l = m := by
  have e : d = d' := by
    rcases Int.lt_trichotomy d d' with c | c | c
    · rcases (h d).2 (.inl c) with a | a
      · omega
      · have := ch_in _ _ hl _ a; omega
    · exact c
    · rcases (h d').1 (.inl c) with a | a
      · omega
      · have := ch_in _ _ hm _ a; omega
  subst e
  refine ⟨rfl, ch_one l m d d hl hm fun n => ⟨fun g => ?_, fun g => ?_⟩⟩
  · rcases (h n).1 (.inr g) with a | a
    · have := ch_in _ _ hl _ g; omega
    · exact a
  · rcases (h n).2 (.inr g) with a | a
    · have := ch_in _ _ hm _ g; omega
    · exact a

/-! joining a range in -/
def stepJ (s : List Rg × Rg × List Rg) (x : Rg) : List Rg × Rg × List Rg :=
  if x.2 < s.2.1.1 then (s.1 ++ [x], s.2.1, s.2.2) else if s.2.1.2 < x.1 then (s.1, s.2.1, s.2.2 ++ [x]) else (s.1, (min s.2.1.1 x.1, max s.2.1.2 x.2), s.2.2)
def jn (l : List Rg) (r : Rg) : List Rg × Rg × List Rg := l.foldl stepJ ([], r, [])

structure Jn (lo e : Int) (s : List Rg × Rg × List Rg) (M : Int → Prop) : Prop where
  le : lo ≤ e
  below : Ch lo s.1
  bend : ∀ x ∈ s.1, x.2 < s.2.1.1 ∧ x.2 ≤ e
  above : Ch s.2.1.2 s.2.2
  aend : ∀ x ∈ s.2.2, x.2 ≤ e
  alo : ∀ x ∈ s.2.2, lo < x.1
  some : s.2.1.1 < s.2.1.2
  bd : 0 ≤ s.2.1.1 ∧ s.2.1.2 ≤ 1048576
  set : ∀ n, (inR s.1 n ∨ (s.2.1.1 ≤ n ∧ n < s.2.1.2) ∨ inR s.2.2 n) ↔ M n

theorem jn_step (lo e : Int) (s : List Rg × Rg × List Rg) (M : Int → Prop) (h : Jn lo e s M) (x : Rg) (h0 : 0 ≤ lo) (h1 : e < x.1) (h2 : x.1 < x.2) (h3 : x.2 ≤ 1048576) :
    Jn lo x.2 (stepJ s x) (fun n => M n ∨ (x.1 ≤ n ∧ n < x.2)) := by
  obtain ⟨lo', hlo⟩ : ∃ y, y = lo := ⟨_, rfl⟩
  obtain ⟨hle, hb, hbe, ha, hae, hal, hs, ⟨hd0, hd1⟩, hset⟩ := h
  obtain ⟨b, ⟨r1, r2⟩, a⟩ := s
  obtain ⟨x1, x2⟩ := x
  simp only at *
  unfold stepJ
  simp only
  split
  · rename_i c
    refine ⟨by omega, ch_snoc b lo _ hb (by simp only; omega) h2 (fun y hy => by have := (hbe y hy).2; simp only; omega), ?_, ha, fun y hy => by have := hae y hy; omega, hal, hs, ⟨hd0, hd1⟩, fun n => ?_⟩
    · intro y hy
      rcases List.mem_append.1 hy with hy | hy
      · have := hbe y hy; simp only; omega
      · simp at hy; subst hy; simp only; omega
    · rw [← hset n]; simp only [inR_app, inR_one]
      constructor
      · rintro ((h | h) | h | h)
        · exact .inl (.inl h)
        · exact .inr h
        · exact .inl (.inr (.inl h))
        · exact .inl (.inr (.inr h))
      · rintro ((h | h | h) | h)
        · exact .inl (.inl h)
        · exact .inr (.inl h)
        · exact .inr (.inr h)
        · exact .inl (.inr h)
  · rename_i c
    split
    · rename_i c2
      refine ⟨by omega, hb, fun y hy => by have := hbe y hy; simp only; omega, ch_snoc a r2 _ ha (by simp only; omega) h2 (fun y hy => by have := hae y hy; simp only; omega), ?_, ?_, hs, ⟨hd0, hd1⟩, fun n => ?_⟩
      · intro y hy
        rcases List.mem_append.1 hy with hy | hy
        · have := hae y hy; omega
        · simp at hy; subst hy; simp only; omega
      · intro y hy
        rcases List.mem_append.1 hy with hy | hy
        · exact hal y hy
        · simp at hy; subst hy; simp only; omega
      · rw [← hset n]; simp only [inR_app, inR_one]
        constructor
        · rintro (h | h | h | h)
          · exact .inl (.inl h)
          · exact .inl (.inr (.inl h))
          · exact .inl (.inr (.inr h))
          · exact .inr h
        · rintro ((h | h | h) | h)
          · exact .inl h
          · exact .inr (.inl h)
          · exact .inr (.inr (.inl h))
          · exact .inr (.inr (.inr h))
    · rename_i c2
      have ea : a = [] := by
        cases a with
        | nil => rfl
        | cons y t =>
          have h4 := ha.1; have h5 := ha.2.1; have h6 := hae y (List.mem_cons_self ..)
          omega
      subst ea
      refine ⟨by omega, hb, fun y hy => by have := hbe y hy; simp only; omega, trivial, by simp, by simp, by simp only; omega, by simp only; omega, fun n => ?_⟩
      rw [← hset n]
      simp only [inR_nil, or_false]
      constructor
      · rintro (h | h)
        · exact .inl (.inl h)
        · by_cases g : r1 ≤ n ∧ n < r2
          · exact .inl (.inr g)
          · exact .inr (by omega)
      · rintro ((h | h) | h)
        · exact .inl h
        · exact .inr (by omega)
        · exact .inr (by omega)

theorem jn_all : ∀ (l : List Rg) (lo e : Int) (s : List Rg × Rg × List Rg) (M : Int → Prop), Jn lo e s M → 0 ≤ lo → Ch e l → (∀ x ∈ l, x.2 ≤ 1048576) → ∃ e', Jn lo e' (l.foldl stepJ s) (fun n => M n ∨ inR l n)
  | [], lo, e, s, M, h, _, _, _ => ⟨e, ⟨h.le, h.below, h.bend, h.above, h.aend, h.alo, h.some, h.bd, fun n => by have := h.set n; simpa [inR_nil] using this⟩⟩
  | x :: t, lo, e, s, M, h, h0, hc, hb => by
    have h1 := jn_step lo e s M h x h0 hc.1 hc.2.1 (hb x (List.mem_cons_self ..))
    obtain ⟨e', h2⟩ := jn_all t lo x.2 (stepJ s x) _ h1 h0 hc.2.2 (fun y hy => hb y (List.mem_cons_of_mem _ hy))
    refine ⟨e', ⟨h2.le, h2.below, h2.bend, h2.above, h2.aend, h2.alo, h2.some, h2.bd, fun n => ?_⟩⟩
    rw [show (x :: t).foldl stepJ s = t.foldl stepJ (stepJ s x) from rfl, h2.set n, inR_cons, or_assoc]

/-- what Add answers, but for want of room -/
def addD (d : Int) (l : List Rg) (r : Rg) : Int := if r.1 = r.2 then d else if (jn l r).2.1.1 ≤ d then max d (jn l r).2.1.2 else d
def addL (d : Int) (l : List Rg) (r : Rg) : List Rg := if r.1 = r.2 then l else if (jn l r).2.1.1 ≤ d then (jn l r).2.2 else (jn l r).1 ++ [(jn l r).2.1] ++ (jn l r).2.2

theorem jn_good (d : Int) (l : List Rg) (r : Rg) (h0 : 0 ≤ d) (hl : okB d l = true) (r0 : 0 ≤ r.1) (r1 : r.1 < r.2) (r2 : r.2 ≤ 1048576) :
    ∃ e', Jn d e' (jn l r) (fun n => (r.1 ≤ n ∧ n < r.2) ∨ inR l n) := by
  obtain ⟨hc, hb⟩ := okB_ch l d hl
  exact jn_all l d d ([], r, []) _ ⟨Int.le_refl _, trivial, by simp, trivial, by simp, by simp, r1, ⟨r0, r2⟩, fun n => by simp [inR_nil]⟩ h0 hc hb

theorem jn_bd (d : Int) (l : List Rg) (r : Rg) (e' : Int) (M : Int → Prop) (h : Jn d e' (jn l r) M) (hM : ∀ n, M n → n < 1048576) : (∀ x ∈ (jn l r).1, x.2 ≤ 1048576) ∧ ∀ x ∈ (jn l r).2.2, x.2 ≤ 1048576 := by
  constructor
  · intro x hx
    have a := ch_lo _ _ h.below x hx
    have := hM (x.2 - 1) ((h.set _).1 (.inl ⟨x, hx, by omega, by omega⟩))
    omega
  · intro x hx
    have a := ch_lo _ _ h.above x hx
    have := hM (x.2 - 1) ((h.set _).1 (.inr (.inr ⟨x, hx, by omega, by omega⟩)))
    omega

theorem add_good (d : Int) (l : List Rg) (r : Rg) (h0 : 0 ≤ d) (h1 : d ≤ 1048576) (hl : okB d l = true) (r0 : 0 ≤ r.1) (r1 : r.1 ≤ r.2) (r2 : r.2 ≤ 1048576) :
    d ≤ addD d l r ∧ addD d l r ≤ 1048576 ∧ okB (addD d l r) (addL d l r) = true ∧ ∀ n, Came (addD d l r) (addL d l r) n ↔ Came d l n ∨ (r.1 ≤ n ∧ n < r.2) := by
  unfold addD addL
  by_cases he : r.1 = r.2
  · rw [if_pos he, if_pos he]
    exact ⟨Int.le_refl _, h1, hl, fun n => ⟨.inl, fun h => h.elim id fun g => by omega⟩⟩
  · rw [if_neg he, if_neg he]
    obtain ⟨e', h⟩ := jn_good d l r h0 hl r0 (by omega) r2
    obtain ⟨hc, hb⟩ := okB_ch l d hl
    have hM : ∀ n, ((r.1 ≤ n ∧ n < r.2) ∨ inR l n) → n < 1048576 := by
      rintro n (g | ⟨x, hx, g1, g2⟩)
      · omega
      · have := hb x hx; omega
    obtain ⟨b1, b2⟩ := jn_bd d l r e' _ h hM
    have hbd := h.bd
    have hset := h.set
    have hab := h.above
    have hbe := h.bend
    have hbl := h.below
    have hsm := h.some
    by_cases hf : (jn l r).2.1.1 ≤ d
    · rw [if_pos hf, if_pos hf]
      have hnil : (jn l r).1 = [] := by
        cases hj : (jn l r).1 with
        | nil => rfl
        | cons x t =>
          rw [hj] at hbl hbe
          have := (hbe x (List.mem_cons_self ..)).1
          have := hbl.1; have := hbl.2.1
          omega
      have hd := h.alo
      refine ⟨by omega, by omega, ch_okB _ _ ?_ b2, fun n => ?_⟩
      · cases hj : (jn l r).2.2 with
        | nil => trivial
        | cons x t =>
          rw [hj] at hab hd
          have := hab.1; have := hd x (List.mem_cons_self ..)
          exact ⟨by omega, hab.2.1, hab.2.2⟩
      · have hs := hset n
        rw [hnil] at hs
        simp only [inR_nil, false_or] at hs
        unfold Came
        constructor
        · rintro (g | g)
          · by_cases c : n < d
            · exact .inl (.inl c)
            · rcases hs.1 (.inl ⟨by omega, by omega⟩) with k | k
              · exact .inr k
              · exact .inl (.inr k)
          · rcases hs.1 (.inr g) with k | k
            · exact .inr k
            · exact .inl (.inr k)
        · rintro ((g | g) | g)
          · exact .inl (by omega)
          · rcases hs.2 (.inr g) with k | k
            · exact .inl (by omega)
            · exact .inr k
          · rcases hs.2 (.inl g) with k | k
            · exact .inl (by omega)
            · exact .inr k
    · rw [if_neg hf, if_neg hf]
      refine ⟨Int.le_refl _, h1, ch_okB _ _ ?_ ?_, fun n => ?_⟩
      · refine ch_app _ d _ (jn l r).2.1.2 (ch_snoc _ _ _ hbl (by omega) hsm fun x hx => (hbe x hx).1) ?_ (by omega) hab
        intro x hx
        rcases List.mem_append.1 hx with hx | hx
        · have := (hbe x hx).1; omega
        · simp at hx; rw [hx]; omega
      · intro x hx
        rcases List.mem_append.1 hx with hx | hx
        · rcases List.mem_append.1 hx with hx | hx
          · exact b1 x hx
          · simp at hx; rw [hx]; omega
        · exact b2 x hx
      · have hs := hset n
        unfold Came
        simp only [inR_app, inR_one]
        constructor
        · rintro (g | (g | g) | g)
          · exact .inl (.inl g)
          · rcases hs.1 (.inl g) with k | k
            · exact .inr k
            · exact .inl (.inr k)
          · rcases hs.1 (.inr (.inl g)) with k | k
            · exact .inr k
            · exact .inl (.inr k)
          · rcases hs.1 (.inr (.inr g)) with k | k
            · exact .inr k
            · exact .inl (.inr k)
        · rintro ((g | g) | g)
          · exact .inl g
          · rcases hs.2 (.inr g) with k | k | k
            · exact .inr (.inl (.inl k))
            · exact .inr (.inl (.inr k))
            · exact .inr (.inr k)
          · rcases hs.2 (.inl g) with k | k | k
            · exact .inr (.inl (.inl k))
            · exact .inr (.inl (.inr k))
            · exact .inr (.inr k)

end Go.Proofs.Ytehckiihipnimaa
