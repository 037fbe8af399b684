/-
  A file that is patched by its delta is the other one. Nothing of the program.
-/
import Derived.Test.YtdilpebhecmjmaaDelMath
namespace Go.Proofs.Ytdilpebhecmjmaa
set_option linter.unusedVariables false
set_option linter.unusedSimpArgs false

theorem madeT_told {old : List Int} {p : Pc} (hc : p.copy = false) : (madeT old p).1 = 0 ↔ p.from_ = 0 ∧ p.len = 0 := by
  unfold madeT
  constructor
  · intro h
    by_cases h1 : p.from_ ≠ 0 ∨ p.len ≠ 0
    · rw [if_pos (.inr ⟨hc, h1⟩)] at h; simp at h
    · exact ⟨Classical.byContradiction fun g => h1 (.inl g), Classical.byContradiction fun g => h1 (.inr g)⟩
  · rintro ⟨h1, h2⟩
    rw [if_neg (by simp [hc, h1, h2]), if_neg (by rw [h1, h2]; omega)]
    simp [hc]
theorem madeT_data {old : List Int} {p : Pc} (hc : p.copy = false) (h : (madeT old p).1 = 0) : (madeT old p).2 = p.data := by
  obtain ⟨h1, h2⟩ := (madeT_told hc).1 h
  unfold madeT
  rw [if_neg (by simp [hc, h1, h2]), if_neg (by rw [h1, h2]; omega)]
  simp [hc]
theorem madeT_copy (old : List Int) (f n : Nat) (h : f + n ≤ old.length) : madeT old ⟨true, (f : Nat), (n : Nat), []⟩ = (0, (old.drop f).take n) := by
  unfold madeT
  rw [if_neg (by simp), if_neg (by simp only; omega)]
  simp
/-- pieces that may be, and the bytes that they make -/
def Fine (old : List Int) (l : List Pc) : Prop := ∀ p ∈ l, (madeT old p).1 = 0
theorem fine_new {old : List Int} {l : List Pc} {p : Pc} (h : Fine old l) (hp : (madeT old p).1 = 0) : Fine old (l ++ [p]) := fun q hq => by
  rcases List.mem_append.1 hq with hq | hq
  · exact h q hq
  · simp at hq; subst hq; exact hp
theorem makes_one (old : List Int) (l : List Pc) (p : Pc) : makesT old (l ++ [p]) = makesT old l ++ (madeT old p).2 := by
  rw [makesT_app]; simp [makesT]
theorem tellT_cases (l : List Pc) (b : Int) : (tellT l b = l ++ [⟨false, 0, 0, [b]⟩]) ∨ ∃ l0 p, l = l0 ++ [p] ∧ p.copy = false ∧ tellT l b = l0 ++ [{ p with data := p.data ++ [b] }] := by
  rcases List.eq_nil_or_concat l with rfl | ⟨l0, x, rfl⟩
  · exact .inl rfl
  · rw [List.concat_eq_append]
    rcases hc : x.copy with _ | _
    · exact .inr ⟨l0, x, rfl, hc, by unfold tellT; simp [hc]⟩
    · left; unfold tellT; simp [hc]
theorem tell_fine {old : List Int} {l : List Pc} (h : Fine old l) (b : Int) : Fine old (tellT l b) ∧ makesT old (tellT l b) = makesT old l ++ [b] := by
  rcases tellT_cases l b with e | ⟨l0, p, rfl, hc, e⟩
  · rw [e]
    have hm : madeT old ⟨false, 0, 0, [b]⟩ = (0, [b]) := by simp [madeT]
    exact ⟨fine_new h (by rw [hm]), by rw [makes_one, hm]⟩
  · rw [e]
    have h0 : Fine old l0 := fun q hq => h q (by simp [hq])
    have hp := h p (by simp)
    have hp' : (madeT old { p with data := p.data ++ [b] }).1 = 0 := (madeT_told (p := { p with data := p.data ++ [b] }) hc).2 ((madeT_told hc).1 hp)
    refine ⟨fine_new h0 hp', ?_⟩
    rw [makes_one, makes_one, madeT_data hc hp, madeT_data (p := { p with data := p.data ++ [b] }) hc hp', List.append_assoc]
theorem go_fine (old : List Int) : ∀ (N : Nat) (b : List Int) (l : List Pc), b.length ≤ N → Fine old l → Fine old (goT old b l) ∧ makesT old (goT old b l) = makesT old l ++ b
  | N, [], l, _, h => by rw [goT_nil]; exact ⟨h, by simp⟩
  | 0, x :: t, l, hN, h => by simp at hN
  | N + 1, x :: t, l, hN, h => by
    by_cases h0 : (mostT old (x :: t)).2 = 0
    · rw [goT_tell _ _ _ _ h0]
      obtain ⟨h1, h2⟩ := tell_fine h x
      obtain ⟨h3, h4⟩ := go_fine old N t _ (by simp at hN; omega) h1
      exact ⟨h3, by rw [h4, h2, List.append_assoc]; rfl⟩
    · rw [goT_copy _ _ _ h0]
      obtain ⟨q1, q2⟩ := mostT_len old (x :: t)
      have hm := madeT_copy old (mostT old (x :: t)).1 (mostT old (x :: t)).2 q2
      obtain ⟨h3, h4⟩ := go_fine old N ((x :: t).drop (mostT old (x :: t)).2) _ (by rw [List.length_drop]; simp at hN ⊢; omega) (fine_new h (by rw [hm]))
      refine ⟨h3, ?_⟩
      rw [h4, makes_one, hm, mostT_is, List.append_assoc, List.take_append_drop]
theorem tellT_len (l : List Pc) (b : Int) : (tellT l b).length ≤ l.length + 1 ∧ tellT l b ≠ [] := by
  rcases tellT_cases l b with e | ⟨l0, p, rfl, hc, e⟩
  · rw [e]; simp
  · rw [e]; simp
theorem go_len (old : List Int) : ∀ (N : Nat) (b : List Int) (l : List Pc), b.length ≤ N → (goT old b l).length ≤ l.length + b.length ∧ (l ≠ [] ∨ b ≠ [] → goT old b l ≠ [])
  | N, [], l, _ => by rw [goT_nil]; simp
  | 0, x :: t, l, hN => by simp at hN
  | N + 1, x :: t, l, hN => by
    by_cases h0 : (mostT old (x :: t)).2 = 0
    · rw [goT_tell _ _ _ _ h0]
      obtain ⟨h1, h2⟩ := tellT_len l x
      obtain ⟨h3, h4⟩ := go_len old N t (tellT l x) (by simp at hN; omega)
      exact ⟨by simp at *; omega, fun _ => h4 (.inl h2)⟩
    · rw [goT_copy _ _ _ h0]
      obtain ⟨h3, h4⟩ := go_len old N ((x :: t).drop (mostT old (x :: t)).2) (l ++ [⟨true, (mostT old (x :: t)).1, (mostT old (x :: t)).2, []⟩]) (by rw [List.length_drop]; simp at hN ⊢; omega)
      refine ⟨?_, fun _ => h4 (.inl (by simp))⟩
      rw [List.length_drop] at h3
      simp only [List.length_append, List.length_cons, List.length_nil] at h3 ⊢
      have := (mostT_len old (x :: t)).1
      simp only [List.length_cons] at this
      omega
theorem delta_back (old now : List Int) (h1 : old.length ≤ 2048) (h2 : now.length ≤ 2048) : patchT old (deltaT old now) = (0, now) ∧ (deltaT old now).length ≤ 2048 ∧ (deltaT old now = [] ↔ now = []) := by
  unfold deltaT
  obtain ⟨f1, f2⟩ := go_fine old now.length now [] (Nat.le_refl _) (fun p hp => by simp at hp)
  obtain ⟨l1, l2⟩ := go_len old now.length now [] (Nat.le_refl _)
  have e : makesT old (goT old now []) = now := by rw [f2]; simp [makesT]
  have hl : (goT old now []).length ≤ 2048 := by simp at l1; omega
  refine ⟨?_, hl, fun h => Classical.byContradiction fun hn => l2 (.inr hn) h, fun h => by rw [h, goT_nil]⟩
  rw [patchT_fine old _ h1 hl f1 (by rw [e]; exact h2), e]
/-- numbers that are not great, and bytes that are not many -/
def Tidy (K : Nat) (p : Pc) : Prop := 0 ≤ p.from_ ∧ p.from_ ≤ 4096 ∧ 0 ≤ p.len ∧ p.len ≤ 4096 ∧ p.data.length ≤ K
theorem Tidy.mono {K K' : Nat} {p : Pc} (h : Tidy K p) (hK : K ≤ K') : Tidy K' p := ⟨h.1, h.2.1, h.2.2.1, h.2.2.2.1, Nat.le_trans h.2.2.2.2 hK⟩
theorem go_tidy (old : List Int) (ho : old.length ≤ 2048) : ∀ (N : Nat) (b : List Int) (l : List Pc) (K : Nat), b.length ≤ N → (∀ p ∈ l, Tidy K p) → ∀ p ∈ goT old b l, Tidy (K + b.length) p
  | N, [], l, K, _, h => by rw [goT_nil]; exact h
  | 0, x :: t, l, K, hN, h => by simp at hN
  | N + 1, x :: t, l, K, hN, h => by
    by_cases h0 : (mostT old (x :: t)).2 = 0
    · rw [goT_tell _ _ _ _ h0]
      have ht : ∀ p ∈ tellT l x, Tidy (K + 1) p := by
        rcases tellT_cases l x with e | ⟨l0, q, rfl, hc, e⟩
        · rw [e]
          intro p hp
          rcases List.mem_append.1 hp with hp | hp
          · exact (h p hp).mono (by omega)
          · simp at hp; subst hp
            exact ⟨by simp, by simp, by simp, by simp, by simp⟩
        · rw [e]
          intro p hp
          rcases List.mem_append.1 hp with hp | hp
          · exact (h p (by simp [hp])).mono (by omega)
          · simp at hp; subst hp
            have := h q (by simp)
            exact ⟨this.1, this.2.1, this.2.2.1, this.2.2.2.1, by simpa using this.2.2.2.2⟩
      have := go_tidy old ho N t (tellT l x) (K + 1) (by simp at hN; omega) ht
      intro p hp
      exact (this p hp).mono (by simp only [List.length_cons]; omega)
    · rw [goT_copy _ _ _ h0]
      obtain ⟨q1, q2⟩ := mostT_len old (x :: t)
      have := go_tidy old ho N ((x :: t).drop (mostT old (x :: t)).2) (l ++ [⟨true, (mostT old (x :: t)).1, (mostT old (x :: t)).2, []⟩]) K (by rw [List.length_drop]; simp at hN ⊢; omega) (fun p hp => by
        rcases List.mem_append.1 hp with hp | hp
        · exact h p hp
        · simp at hp; subst hp
          exact ⟨by simp only; omega, by simp only; omega, by simp only; omega, by simp only; omega, by simp⟩)
      intro p hp
      exact (this p hp).mono (by rw [List.length_drop]; omega)
theorem delta_tidy (old now : List Int) (h1 : old.length ≤ 2048) : ∀ p ∈ deltaT old now, Tidy now.length p := by
  have := go_tidy old h1 now.length now [] 0 (Nat.le_refl _) (by simp)
  unfold deltaT
  rw [Nat.zero_add] at this
  exact this

end Go.Proofs.Ytdilpebhecmjmaa
