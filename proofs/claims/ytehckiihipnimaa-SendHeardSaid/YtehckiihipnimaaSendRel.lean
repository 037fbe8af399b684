/-
  Mathematics of who sends: what the program keeps of it (done, beyond, again) against place by place.
-/
import Derived.Test.YtehckiihipnimaaSendOk
namespace Go.Proofs.Ytehckiihipnimaa
set_option linter.unusedVariables false

theorem hd_lt {l : List Bool} {n : Nat} (h : hd l n = true) : n < l.length := by
  rcases Nat.lt_or_ge n l.length with g | g
  · exact g
  · unfold hd at h; rw [List.getD_eq_getElem?_getD, List.getElem?_eq_none g] at h; cases h
theorem may_parts {d : Int} {l : List Rg} (h : mayB d l = true) : 0 ≤ d ∧ d ≤ 1048576 ∧ l.length ≤ 16 ∧ Ch d l ∧ ∀ x ∈ l, x.2 ≤ 1048576 := by
  simp only [mayB, Bool.and_eq_true, decide_eq_true_eq] at h
  obtain ⟨h1, h2, h3, h4⟩ := h
  obtain ⟨h5, h6⟩ := okB_ch l d h4
  exact ⟨h1, h2, h3, h5, h6⟩

/-- the places of a list of bools are those that came -/
def SetK (k : List Bool) (d : Int) (l : List Rg) : Prop := ∀ n : Nat, hd k n = true ↔ Came d l n

/-- done, beyond, again: what the program keeps of who sends -/
structure Rel (s : Sd) (dn : Int) (bt : List Rg) (ag : Nat) : Prop where
  may : mayB dn bt = true
  set : SetK s.known dn bt
  a1 : ag ≤ s.sent
  a2 : s.todo ≤ ag
  a3 : ∀ n, s.todo ≤ n → n < ag → hd s.known n = true

def sumR : List Rg → Int
  | [] => 0
  | x :: t => (x.2 - x.1) + sumR t

theorem cnt_seg (k : List Bool) (a : Nat) (v : Bool) : ∀ m, (∀ i, a ≤ i → i < a + m → hd k i = v) → cnt k (a + m) = cnt k a + (if v then m else 0)
  | 0, _ => by split <;> simp
  | m + 1, h => by
    have ih := cnt_seg k a v m (fun i h1 h2 => h i h1 (by omega))
    have e : cnt k (a + (m + 1)) = cnt k (a + m) + (if hd k (a + m) then 1 else 0) := rfl
    rw [e, ih, h (a + m) (by omega) (by omega)]
    cases v <;> simp; omega
theorem isl_out (k : List Bool) (a : Nat) : ∀ m, (∀ i, a ≤ i → i < a + m → hd k i = false) → isl k (a + m) = isl k a
  | 0, _ => rfl
  | m + 1, h => by
    have e : isl k (a + (m + 1)) = isl k (a + m) + (if hd k (a + m) && !hd k (a + m - 1) then 1 else 0) := rfl
    rw [e, isl_out k a m (fun i h1 h2 => h i h1 (by omega)), h (a + m) (by omega) (by omega)]
    simp
theorem isl_in (k : List Bool) (a : Nat) (h0 : hd k (a - 1) = false) : ∀ m, 0 < m → (∀ i, a ≤ i → i < a + m → hd k i = true) → isl k (a + m) = isl k a + 1
  | 0, h, _ => absurd h (by omega)
  | m + 1, _, h => by
    have e : isl k (a + (m + 1)) = isl k (a + m) + (if hd k (a + m) && !hd k (a + m - 1) then 1 else 0) := rfl
    rw [e, h (a + m) (by omega) (by omega)]
    rcases Nat.eq_zero_or_pos m with g | g
    · subst g; simp [h0]
    · rw [isl_in k a h0 m g (fun i h1 h2 => h i h1 (by omega)), h (a + m - 1) (by omega) (by omega)]
      simp
theorem isl_true (k : List Bool) : ∀ m, (∀ i, i < m → hd k i = true) → isl k m = 0
  | 0, _ => rfl
  | m + 1, h => by
    have e : isl k (m + 1) = isl k m + (if hd k m && !hd k (m - 1) then 1 else 0) := rfl
    rw [e, isl_true k m (fun i hi => h i (by omega)), h m (by omega), h (m - 1) (by omega)]
    rfl

/-- ranges from p on: how many places, how many islands -/
theorem count_from (k : List Bool) : ∀ (l : List Rg) (p n : Nat), Ch p l → (∀ x ∈ l, x.2 ≤ n) → p ≤ n → (∀ i : Nat, p ≤ i → (hd k i = true ↔ inR l i)) →
    (cnt k n : Int) = cnt k p + sumR l ∧ isl k n = isl k p + l.length
  | [], p, n, _, _, hp, h => by
    obtain ⟨m, rfl⟩ : ∃ m, n = p + m := ⟨n - p, by omega⟩
    have hf : ∀ i, p ≤ i → i < p + m → hd k i = false := fun i h1 _ => by
      rcases hv : hd k i with _ | _
      · rfl
      · exact absurd ((h i h1).1 hv) (inR_nil _)
    rw [cnt_seg k p false m hf, isl_out k p m hf]
    simp [sumR]
  | x :: t, p, n, hc, ht, hp, h => by
    obtain ⟨x1, x2⟩ := x
    obtain ⟨c1, c2, c3⟩ := hc
    simp only at c1 c2 c3
    have hx2 := ht (x1, x2) (List.mem_cons_self ..)
    simp only at hx2
    obtain ⟨a, rfl⟩ : ∃ a : Nat, x1 = a := ⟨x1.toNat, by omega⟩
    obtain ⟨b, rfl⟩ : ∃ b : Nat, x2 = b := ⟨x2.toNat, by omega⟩
    have hin := ch_in t b c3
    have hf : ∀ i, p ≤ i → i < p + (a - p) → hd k i = false := fun i h1 h2 => by
      rcases hv : hd k i with _ | _
      · rfl
      · exfalso
        rcases (inR_cons _ _ _).1 ((h i h1).1 hv) with g | g
        · simp only at g; omega
        · have := hin _ g; omega
    have htr : ∀ i, a ≤ i → i < a + (b - a) → hd k i = true := fun i h1 h2 => (h i (by omega)).2 ((inR_cons _ _ _).2 (.inl ⟨by simp only; omega, by simp only; omega⟩))
    have e1 := cnt_seg k p false (a - p) hf
    have e2 := cnt_seg k a true (b - a) htr
    have e3 := isl_out k p (a - p) hf
    have e4 := isl_in k a (hf (a - 1) (by omega) (by omega)) (b - a) (by omega) htr
    rw [show p + (a - p) = a by omega] at e1 e3
    rw [show a + (b - a) = b by omega] at e2 e4
    obtain ⟨i1, i2⟩ := count_from k t b n c3 (fun y hy => ht y (List.mem_cons_of_mem _ hy)) (by omega) (fun i hi => by
      rw [h i (by omega), inR_cons]
      exact ⟨fun g => g.elim (fun g => by simp only at g; omega) id, .inr⟩)
    simp only [sumR, List.length_cons]
    simp only [if_true, Bool.false_eq_true, if_false] at e1 e2
    omega

theorem count_all {k : List Bool} {d : Int} {l : List Rg} {n : Nat} (h : SetK k d l) (h0 : 0 ≤ d) (hc : Ch d l) (hn : d ≤ n) (ht : ∀ x ∈ l, x.2 ≤ n) : (cnt k n : Int) = d + sumR l ∧ isl k n = l.length := by
  obtain ⟨p, rfl⟩ : ∃ p : Nat, d = p := ⟨d.toNat, by omega⟩
  have hlow : ∀ i, i < p → hd k i = true := fun i hi => (h i).2 (.inl (by omega))
  obtain ⟨e1, e2⟩ := count_from k l p n hc ht (by omega) (fun i hi => by
    rw [h i]
    exact ⟨fun g => g.elim (fun g => by omega) id, .inr⟩)
  have e3 := cnt_seg k 0 true p (fun i _ hi => hlow i (by omega))
  have e4 := isl_true k p hlow
  simp only [Nat.zero_add, if_true, show cnt k 0 = 0 from rfl] at e3
  rw [e1, e2, e3, e4]
  omega

theorem setK_top {k : List Bool} {d : Int} {l : List Rg} (h : SetK k d l) (h0 : 0 ≤ d) (hc : Ch d l) : d ≤ k.length ∧ ∀ x ∈ l, x.2 ≤ (k.length : Int) := by
  constructor
  · by_cases g : 0 < d
    · have := hd_lt ((h (d - 1).toNat).2 (.inl (by omega))); omega
    · omega
  · intro x hx
    have := ch_lo l d hc x hx
    have := hd_lt ((h (x.2 - 1).toNat).2 (.inr ⟨x, hx, by omega, by omega⟩))
    omega
theorem islands_of {k : List Bool} {d : Int} {l : List Rg} (h : SetK k d l) (h0 : 0 ≤ d) (hc : Ch d l) : islands k = l.length :=
  (count_all h h0 hc (setK_top h h0 hc).1 (setK_top h h0 hc).2).2

/-! what is heard -/
theorem hd_fill (l : List Bool) (a : Nat) : ∀ m, a + m ≤ l.length → ∀ n, hd (fill l a m) n = true ↔ hd l n = true ∨ (a ≤ n ∧ n < a + m)
  | 0, _, n => by simp [fill]; omega
  | m + 1, h, n => by
    have ih := hd_fill l a m (by omega) n
    have hlen := fill_len l a m
    show hd ((fill l a m).set (a + m) true) n = true ↔ _
    unfold hd
    rw [List.getD_eq_getElem?_getD, List.getElem?_set]
    by_cases e : a + m = n
    · rw [if_pos e, if_pos (by omega)]
      simp; right; omega
    · rw [if_neg e, ← List.getD_eq_getElem?_getD]
      rw [show ((fill l a m).getD n false = true) = (hd (fill l a m) n = true) from rfl, ih]
      constructor
      · rintro (g | g)
        · exact .inl g
        · exact .inr (by omega)
      · rintro (g | g)
        · exact .inl g
        · exact .inr (by omega)
theorem hd_pad (k : List Bool) (m n : Nat) : hd (pad k m) n = hd k n := by
  unfold hd pad
  rw [List.getD_eq_getElem?_getD, List.getD_eq_getElem?_getD, List.getElem?_append]
  split
  · rfl
  · rename_i g
    rw [List.getElem?_replicate, List.getElem?_eq_none (by omega)]
    split <;> rfl
/-- all ranges added, one by one; none: too many -/
def adds : Int × List Rg → List Rg → Option (Int × List Rg)
  | s, [] => some s
  | s, r :: t => if 16 < (addL s.1 s.2 r).length then none else adds (addD s.1 s.2 r, addL s.1 s.2 r) t
theorem mark_set {K : List Bool} {d : Int} {l : List Rg} {r : Rg} (h : SetK K d l) (hm : mayB d l = true) (r0 : 0 ≤ r.1) (r1 : r.1 ≤ r.2) (r2 : r.2 ≤ K.length) (hK : K.length ≤ 1048576) :
    SetK (mark K r) (addD d l r) (addL d l r) ∧ islands (mark K r) = (addL d l r).length ∧ ((addL d l r).length ≤ 16 → mayB (addD d l r) (addL d l r) = true) := by
  simp only [mayB, Bool.and_eq_true, decide_eq_true_eq] at hm
  obtain ⟨m1, m2, m3, m4⟩ := hm
  obtain ⟨g1, g2, g3, g4⟩ := add_good d l r m1 m2 m4 r0 r1 (by omega)
  have hs : SetK (mark K r) (addD d l r) (addL d l r) := fun n => by
    unfold mark
    rw [hd_fill K r.1.toNat (r.2 - r.1).toNat (by omega) n, h n, g4]
    constructor
    · rintro (q | q)
      · exact .inl q
      · exact .inr (by omega)
    · rintro (q | q)
      · exact .inl q
      · exact .inr (by omega)
  obtain ⟨k1, k2⟩ := okB_ch _ _ g3
  refine ⟨hs, islands_of hs (by omega) k1, fun h16 => ?_⟩
  simp only [mayB, Bool.and_eq_true, decide_eq_true_eq]
  exact ⟨by omega, g2, h16, g3⟩
/-- the document's marks are the program's ranges -/
theorem marks_adds : ∀ (rs : List Rg) (K : List Bool) (d : Int) (l : List Rg), SetK K d l → mayB d l = true → (∀ r ∈ rs, 0 ≤ r.1 ∧ r.1 ≤ r.2 ∧ r.2 ≤ (K.length : Int)) → K.length ≤ 1048576 →
    (adds (d, l) rs = none ∧ marks K rs = none) ∨ ∃ D L K', adds (d, l) rs = some (D, L) ∧ marks K rs = some K' ∧ SetK K' D L ∧ mayB D L = true ∧ (∀ n, hd K n = true → hd K' n = true) ∧ K'.length = K.length
  | [], K, d, l, h, hm, _, _ => .inr ⟨d, l, K, rfl, rfl, h, hm, fun _ h => h, rfl⟩
  | r :: t, K, d, l, h, hm, hr, hK => by
    obtain ⟨a, b, c⟩ := hr r (List.mem_cons_self ..)
    obtain ⟨e1, e2, e3⟩ := mark_set h hm a b c hK
    have hlen : (mark K r).length = K.length := fill_len _ _ _
    unfold adds marks
    rw [e2]
    simp only
    split
    · exact .inl ⟨rfl, rfl⟩
    · rename_i g
      rcases marks_adds t (mark K r) _ _ e1 (e3 (by omega)) (fun y hy => by rw [hlen]; exact hr y (List.mem_cons_of_mem _ hy)) (by rw [hlen]; exact hK) with q | ⟨D, L, K', q1, q2, q3, q4, q5, q6⟩
      · exact .inl q
      · refine .inr ⟨D, L, K', q1, q2, q3, q4, fun n hn => q5 n ?_, by rw [q6, hlen]⟩
        unfold mark
        exact (hd_fill K r.1.toNat (r.2 - r.1).toNat (by omega) n).2 (.inl hn)


/-! what is missing -/
/-- the walk over the ranges, from behind -/
def mb (at_ sn : Int) : List Rg → Bool × Rg
  | [] => (false, (at_, sn))
  | x :: t => if (mb at_ sn t).1 then mb at_ sn t else if x.1 ≤ (mb at_ sn t).2.1 then (true, (max (mb at_ sn t).2.1 x.2, (mb at_ sn t).2.2)) else (false, ((mb at_ sn t).2.1, x.1))
theorem mb_spec (at_ sn : Int) (h0 : at_ ≤ sn) : ∀ (l : List Rg) (lo : Int), Ch lo l → (∀ x ∈ l, x.2 ≤ sn) →
    (at_ ≤ (mb at_ sn l).2.1 ∧ (mb at_ sn l).2.1 ≤ (mb at_ sn l).2.2 ∧ (mb at_ sn l).2.2 ≤ sn) ∧ (∀ n, at_ ≤ n → n < (mb at_ sn l).2.1 → inR l n) ∧ (∀ n, (mb at_ sn l).2.1 ≤ n → n < (mb at_ sn l).2.2 → ¬ inR l n) ∧
    ((mb at_ sn l).2.2 = sn ∨ inR l (mb at_ sn l).2.2) ∧ ((mb at_ sn l).2.1 < (mb at_ sn l).2.2 ∨ (mb at_ sn l).2.1 = sn) ∧
    ((mb at_ sn l).1 = true → ∃ x ∈ l, x.1 ≤ at_) ∧ ((mb at_ sn l).1 = false → (mb at_ sn l).2.1 = at_ ∧ (∀ x ∈ l, at_ < x.1 ∧ (mb at_ sn l).2.2 ≤ x.1))
  | [], lo, _, _ => ⟨⟨Int.le_refl _, h0, Int.le_refl _⟩, fun n h1 h2 => by simp only [mb] at h2; omega, fun n _ _ => inR_nil n, .inl rfl, by simp only [mb]; omega, fun h => by simp [mb] at h, fun _ => ⟨rfl, by simp⟩⟩
  | x :: t, lo, hc, ht => by
    obtain ⟨x1, x2⟩ := x
    obtain ⟨c1, c2, c3⟩ := hc
    simp only at c1 c2 c3
    obtain ⟨⟨i1, i2, i3⟩, i4, i5, i6, i7, i8, i9⟩ := mb_spec at_ sn h0 t x2 c3 (fun y hy => ht y (List.mem_cons_of_mem _ hy))
    have hx2 := ht (x1, x2) (List.mem_cons_self ..)
    simp only at hx2
    have hlo := ch_lo t x2 c3
    unfold mb
    obtain ⟨r, hr⟩ : ∃ r, r = mb at_ sn t := ⟨_, rfl⟩
    rw [← hr] at i1 i2 i3 i4 i5 i6 i7 i8 i9 ⊢
    obtain ⟨f, F, E⟩ := r
    simp only at i1 i2 i3 i4 i5 i6 i7 i8 i9 ⊢
    cases f with
    | true =>
      simp only [if_true]
      obtain ⟨y, hy, hya⟩ := i8 rfl
      have := hlo y hy
      refine ⟨⟨i1, i2, i3⟩, fun n a b => (inR_cons _ _ _).2 (.inr (i4 n a b)), fun n a b g => ?_, i6.imp id (fun g => (inR_cons _ _ _).2 (.inr g)), i7, fun _ => ⟨y, List.mem_cons_of_mem _ hy, hya⟩, fun g => by cases g⟩
      rcases (inR_cons _ _ _).1 g with g | g
      · simp only at g; omega
      · exact i5 n a b g
    | false =>
      obtain ⟨j1, j2⟩ := i9 rfl
      subst j1
      simp only [Bool.false_eq_true, if_false]
      split
      · rename_i hx
        have hE : x2 < E ∨ E = sn := by
          rcases i6 with g | g
          · exact .inr g
          · exact .inl (ch_in t x2 c3 E g)
        refine ⟨⟨by simp only; omega, by simp only; omega, i3⟩, fun n a b => (inR_cons _ _ _).2 (.inl ⟨by simp only; omega, by simp only at b ⊢; omega⟩), fun n a b g => ?_, i6.imp id (fun g => (inR_cons _ _ _).2 (.inr g)), by simp only; omega, fun _ => ⟨_, List.mem_cons_self .., hx⟩, fun g => by cases g⟩
        simp only at a b
        rcases (inR_cons _ _ _).1 g with g | g
        · simp only at g; omega
        · exact i5 n (by omega) b g
      · rename_i hx
        refine ⟨⟨Int.le_refl _, by simp only; omega, by simp only; omega⟩, fun n a b => by simp only at b; omega, fun n a b g => ?_, .inr ((inR_cons _ _ _).2 (.inl ⟨by simp, by simpa using c2⟩)), .inl (by simp only; omega), fun g => (by cases g), fun _ => ⟨rfl, fun y hy => ?_⟩⟩
        · simp only at a b
          rcases (inR_cons _ _ _).1 g with g | g
          · simp only at g; omega
          · have := ch_in t x2 c3 n g; omega
        · rcases List.mem_cons.1 hy with rfl | hy
          · exact ⟨by simp only; omega, by simp⟩
          · have := hlo y hy; have := j2 y hy; exact ⟨this.1, by simp only; omega⟩

theorem skips_eq (k : List Bool) (sn : Nat) : ∀ (m td F : Nat), F = td + m → F ≤ sn → (∀ n, td ≤ n → n < F → hd k n = true) → (F = sn ∨ hd k F = false) → skips k sn td = F
  | 0, td, F, hF, hs, _, hE => by
    rw [skips_step, if_neg (fun g => ?_)]
    · omega
    · rcases hE with h | h
      · omega
      · rw [show F = td by omega] at h; rw [h] at g; cases g.2
  | m + 1, td, F, hF, hs, hin, hE => by
    rw [skips_step, if_pos ⟨by omega, hin td (Nat.le_refl _) (by omega)⟩]
    exact skips_eq k sn m (td + 1) F (by omega) hs (fun n h1 h2 => hin n (by omega) h2) hE

/-! what goes out -/
/-- how far bytes go at once: of places a up to E -/
def upTo (a E dl : Nat) : Nat := min (min E (a + 64)) dl
theorem run_upTo (s : Sd) (ag : Bool) (li : Int) (a E : Nat) (hE : E ≤ places s) (hin : ∀ n, a ≤ n → n < E → goes s ag li n) (hout : ¬ goes s ag li E) (ha : a ≤ s.data.length) : ∀ (f m : Nat), m ≤ 64 → f = 66 - m → a + m ≤ E → a + m ≤ s.data.length →
    run s ag li f (a + m) m = (upTo a E s.data.length - a, decide (upTo a E s.data.length = s.data.length ∧ upTo a E s.data.length < E))
  | 0, m, h64, hf, _, _ => by omega
  | f + 1, m, h64, hf, hle, hld => by
    have hpl := places_le s
    unfold run upTo
    by_cases hg : a + m < E
    · rw [if_pos (hin _ (by omega) hg)]
      by_cases hd : a + m = s.data.length
      · rw [if_pos hd]
        refine Prod.ext ?_ ?_
        · simp only; omega
        · simp only; symm; simp only [decide_eq_true_eq]; omega
      · rw [if_neg hd]
        by_cases hm : m = 64
        · rw [if_pos hm]
          refine Prod.ext ?_ ?_
          · simp only; omega
          · simp only; symm; simp only [decide_eq_false_iff_not]; omega
        · rw [if_neg hm]
          have ih := run_upTo s ag li a E hE hin hout ha f (m + 1) (by omega) (by omega) (by omega) (by omega)
          rw [← Nat.add_assoc] at ih
          rw [ih]; rfl
    · have e : a + m = E := by omega
      rw [if_neg (by rw [e]; exact hout)]
      refine Prod.ext ?_ ?_
      · simp only; omega
      · simp only; symm; simp only [decide_eq_false_iff_not]; omega
theorem runs_upTo (s : Sd) (ag : Bool) (li : Int) (a E : Nat) (hE : E ≤ places s) (haE : a ≤ E) (hin : ∀ n, a ≤ n → n < E → goes s ag li n) (hout : ¬ goes s ag li E) (ha : a ≤ s.data.length) :
    runs s ag li a = (upTo a E s.data.length - a, decide (upTo a E s.data.length = s.data.length ∧ upTo a E s.data.length < E)) :=
  run_upTo s ag li a E hE hin hout ha 66 0 (by omega) rfl (by omega) (by omega)

end Go.Proofs.Ytehckiihipnimaa
