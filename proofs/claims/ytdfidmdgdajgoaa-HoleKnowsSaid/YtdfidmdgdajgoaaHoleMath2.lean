/-
  Plain mathematics of layer 3, the second part: gaps that are filled; ranges that come in whatever order.
-/
import Derived.Test.YtdfidmdgdajgoaaHoleGrows
namespace Go.Proofs.Ytdfidmdgdajgoaa
set_option linter.unusedVariables false

theorem jn_touch : ∀ (l : List Rg) (s : List Rg × Rg × List Rg) (r : Rg), s.2.1.1 ≤ r.1 → r.2 ≤ s.2.1.2 → (∃ y ∈ l, y.1 ≤ r.2 ∧ r.1 ≤ y.2) →
    (l.foldl stepJ s).1.length + (l.foldl stepJ s).2.2.length + 1 ≤ s.1.length + s.2.2.length + l.length
  | [], s, r, _, _, ⟨y, hy, _⟩ => by cases hy
  | x :: t, s, r, h1, h2, ⟨y, hy, h3, h4⟩ => by
    simp only [List.foldl_cons, List.length_cons]
    by_cases hx : x.1 ≤ r.2 ∧ r.1 ≤ x.2
    · have e : stepJ s x = (s.1, (min s.2.1.1 x.1, max s.2.1.2 x.2), s.2.2) := by
        unfold stepJ
        rw [if_neg (by omega), if_neg (by omega)]
      have := jn_len t (stepJ s x)
      rw [e] at this ⊢
      simp only at this ⊢
      omega
    · have hy' : y ∈ t := by
        rcases List.mem_cons.1 hy with rfl | h
        · exact absurd ⟨h3, h4⟩ hx
        · exact h
      have hs : (stepJ s x).2.1.1 ≤ r.1 ∧ r.2 ≤ (stepJ s x).2.1.2 := by
        unfold stepJ
        split
        · exact ⟨h1, h2⟩
        · split
          · exact ⟨h1, h2⟩
          · simp only; omega
      have := jn_touch t (stepJ s x) r hs.1 hs.2 ⟨y, hy', h3, h4⟩
      have h : (stepJ s x).1.length + (stepJ s x).2.2.length ≤ s.1.length + s.2.2.length + 1 := by
        unfold stepJ
        split
        · simp; omega
        · split
          · simp; omega
          · simp
      omega

theorem jn_wide : ∀ (l : List Rg) (s : List Rg × Rg × List Rg), (l.foldl stepJ s).2.1.1 ≤ s.2.1.1 ∧ s.2.1.2 ≤ (l.foldl stepJ s).2.1.2
  | [], s => ⟨Int.le_refl _, Int.le_refl _⟩
  | x :: t, s => by
    have := jn_wide t (stepJ s x)
    have h : (stepJ s x).2.1.1 ≤ s.2.1.1 ∧ s.2.1.2 ≤ (stepJ s x).2.1.2 := by
      unfold stepJ
      split
      · exact ⟨Int.le_refl _, Int.le_refl _⟩
      · split
        · exact ⟨Int.le_refl _, Int.le_refl _⟩
        · simp only; omega
    simp only [List.foldl_cons]
    omega

theorem addL_touch (d : Int) (l : List Rg) (r : Rg) (h : r.1 ≤ d ∨ ∃ y ∈ l, y.1 ≤ r.2 ∧ r.1 ≤ y.2) : (addL d l r).length ≤ l.length := by
  unfold addL
  split
  · exact Nat.le_refl _
  · have hl := jn_len l ([], r, [])
    have hw := jn_wide l ([], r, [])
    simp only [List.length_nil] at hl hw
    split
    · simp only [jn]; omega
    · rename_i hn
      rcases h with h | h
      · exfalso; simp only [jn] at hn; omega
      · have := jn_touch l ([], r, []) r (Int.le_refl _) (Int.le_refl _) h
        simp only [List.length_nil] at this
        simp only [jn, List.length_append, List.length_cons, List.length_nil]
        omega

/-! gaps -/
def lastTo : Int → List Rg → Int
  | d, [] => d
  | _, x :: t => lastTo x.2 t
theorem lastTo_le : ∀ (l : List Rg) (d : Int), Ch d l → d ≤ lastTo d l
  | [], _, _ => Int.le_refl _
  | x :: t, d, h => by have := lastTo_le t x.2 h.2.2; have := h.1; have := h.2.1; simp only [lastTo]; omega
theorem gaps_set : ∀ (l : List Rg) (d : Int), Ch d l → ∀ n, (Came d l n ∨ inR (gapsR d l) n) ↔ n < lastTo d l
  | [], d, _, n => by simp [Came, inR_nil, gapsR, lastTo]
  | x :: t, d, h, n => by
    have ih := gaps_set t x.2 h.2.2 n
    have hl := lastTo_le t x.2 h.2.2
    have := h.1; have := h.2.1
    unfold Came at ih ⊢
    simp only [gapsR, lastTo, inR_cons]
    rw [← ih]
    constructor
    · rintro ((g | g | g) | g | g)
      · exact .inl (.inl (by omega))
      · exact .inl (.inl g.2)
      · exact .inl (.inr g)
      · exact .inl (.inl (by omega))
      · exact .inr g
    · rintro ((g | g) | g)
      · by_cases c : n < d
        · exact .inl (.inl c)
        · by_cases c2 : n < x.1
          · exact .inr (.inl ⟨by omega, c2⟩)
          · exact .inl (.inr (.inl ⟨by omega, g⟩))
      · exact .inl (.inr (.inr g))
      · exact .inr (.inr g)
/-- a gap has places, begins where nothing came, and ends where something did -/
theorem gaps_each : ∀ (l : List Rg) (d : Int), Ch d l → ∀ r ∈ gapsR d l, d ≤ r.1 ∧ r.1 < r.2 ∧ ¬ Came d l r.1 ∧ inR l r.2
  | [], d, _, r, hr => by cases hr
  | x :: t, d, h, r, hr => by
    have h1 := h.1; have h2 := h.2.1
    rcases List.mem_cons.1 hr with rfl | hr
    · refine ⟨Int.le_refl _, h1, ?_, (inR_cons _ _ _).2 (.inl ⟨Int.le_refl _, h2⟩)⟩
      rintro (g | g)
      · simp only at g; omega
      · have := ch_in _ _ h _ g; simp only at this; omega
    · obtain ⟨g1, g2, g3, g4⟩ := gaps_each t x.2 h.2.2 r hr
      refine ⟨by omega, g2, ?_, (inR_cons _ _ _).2 (.inr g4)⟩
      rintro (g | g)
      · omega
      · rcases (inR_cons _ _ _).1 g with g | g
        · omega
        · exact g3 (.inr g)

/-- A gap more is filled. -/
theorem fill_one (d : Int) (o : List Rg) (D : Int) (R : List Rg) (G : Int → Prop) (hm : mayB d o = true) (hM : mayB D R = true) (hset : ∀ n, Came D R n ↔ Came d o n ∨ G n) (r : Rg) (hr : r ∈ gapsR d o) :
    (0 ≤ r.1 ∧ r.1 ≤ r.2 ∧ r.2 ≤ 1048576) ∧ (addL D R r).length ≤ 16 ∧ ∀ n, Came (addD D R r) (addL D R r) n ↔ Came d o n ∨ (G n ∨ (r.1 ≤ n ∧ n < r.2)) := by
  obtain ⟨g0, g1, g2, g3⟩ := mayB_to hm
  obtain ⟨k0, k1, k2, k3⟩ := mayB_to hM
  obtain ⟨hc, hb⟩ := okB_ch o d g3
  obtain ⟨e1, e2, e3, e4⟩ := gaps_each o d hc r hr
  have hr2 : r.2 ≤ 1048576 := by
    obtain ⟨y, hy, h1, h2⟩ := e4
    have := hb y hy; omega
  have hr0 : 0 ≤ r.1 ∧ r.1 ≤ r.2 ∧ r.2 ≤ 1048576 := by omega
  refine ⟨hr0, ?_, fun n => ?_⟩
  · refine Nat.le_trans (addL_touch D R r ?_) k2
    rcases (hset r.2).2 (.inl (.inr e4)) with h | ⟨y, hy, h1, h2⟩
    · exact .inl (by omega)
    · exact .inr ⟨y, hy, h1, by omega⟩
  · rw [(add_good D R r k0 k1 k3 hr0.1 hr0.2.1 hr0.2.2).2.2.2 n, hset n, or_assoc]

theorem fill_all (d : Int) (o : List Rg) (D : Int) (R : List Rg) (hm : mayB d o = true) (hM : mayB D R = true) (hset : ∀ n, Came D R n ↔ Came d o n ∨ inR (gapsR d o) n) : D = lastTo d o ∧ R = [] := by
  obtain ⟨g0, g1, g2, g3⟩ := mayB_to hm
  obtain ⟨k0, k1, k2, k3⟩ := mayB_to hM
  exact came_one D (lastTo d o) R [] (okB_ch R D k3).1 trivial fun n => by
    rw [hset n, gaps_set o d (okB_ch o d g3).1 n]
    simp [Came, inR_nil]

theorem rot_cover (n t : Nat) (hn : 0 < n) (i : Nat) (hi : i < n) : ∃ j, j < n ∧ (j + t) % n = i := by
  refine ⟨(i + (n - t % n)) % n, Nat.mod_lt _ hn, ?_⟩
  have h := Nat.mod_lt t hn
  have hd := Nat.div_add_mod t n
  have e : i + (n - t % n) + t = i + n * (1 + t / n) := by rw [Nat.mul_add, Nat.mul_one]; omega
  rw [Nat.mod_add_mod, e, Nat.add_mul_mod_self_left, Nat.mod_eq_of_lt hi]

end Go.Proofs.Ytdfidmdgdajgoaa
