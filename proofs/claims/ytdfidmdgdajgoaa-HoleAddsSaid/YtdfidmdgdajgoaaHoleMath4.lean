/-
  Plain mathematics of layer 3, the fourth part: the form found by looking at all places where something changes.
-/
import Derived.Test.YtdfidmdgdajgoaaHolePut
namespace Go.Proofs.Ytdfidmdgdajgoaa
set_option linter.unusedVariables false

def Srt : List Int → Prop
  | [] => True
  | x :: t => (∀ y ∈ t, x < y) ∧ Srt t
theorem ins_mem (n : Int) : ∀ (P : List Int) (y : Int), y ∈ ins n P ↔ y = n ∨ y ∈ P
  | [], y => by simp [ins]
  | z :: t, y => by
    unfold ins
    split
    · rw [List.mem_cons, ins_mem n t y, List.mem_cons]
      constructor
      · rintro (h | h | h)
        · exact .inr (.inl h)
        · exact .inl h
        · exact .inr (.inr h)
      · rintro (h | h | h)
        · exact .inr (.inl h)
        · exact .inl h
        · exact .inr (.inr h)
    · split
      · rename_i h
        subst h
        simp
      · simp
theorem ins_srt (n : Int) : ∀ (P : List Int), Srt P → Srt (ins n P)
  | [], _ => ⟨by simp, trivial⟩
  | z :: t, ⟨h1, h2⟩ => by
    unfold ins
    split
    · rename_i h
      refine ⟨fun y hy => ?_, ins_srt n t h2⟩
      rcases (ins_mem n t y).1 hy with rfl | hy
      · exact h
      · exact h1 y hy
    · split
      · exact ⟨h1, h2⟩
      · refine ⟨fun y hy => ?_, h1, h2⟩
        rcases List.mem_cons.1 hy with rfl | hy
        · omega
        · have := h1 y hy; omega
theorem ins_len (n : Int) : ∀ (P : List Int), (ins n P).length ≤ P.length + 1
  | [] => by simp [ins]
  | z :: t => by
    have := ins_len n t
    unfold ins
    split
    · simp; omega
    · split
      · simp
      · simp
theorem srt_lt : ∀ (P : List Int), Srt P → ∀ (i j : Nat) (a b : Int), i < j → P[i]? = some a → P[j]? = some b → a < b
  | [], _, i, j, a, b, _, ha, _ => by simp at ha
  | z :: t, ⟨h1, h2⟩, 0, j + 1, a, b, _, ha, hb => by
    simp at ha hb; subst ha
    exact h1 b (List.mem_of_getElem? hb)
  | z :: t, ⟨h1, h2⟩, i + 1, j + 1, a, b, h, ha, hb => srt_lt t h2 i j a b (by omega) (by simpa using ha) (by simpa using hb)
theorem srt_mid (P : List Int) (h : Srt P) (i : Nat) (p q y : Int) (hp : P[i]? = some p) (hq : P[i + 1]? = some q) (hy : y ∈ P) : y ≤ p ∨ q ≤ y := by
  obtain ⟨j, hj, rfl⟩ := List.mem_iff_getElem.1 hy
  rcases Nat.lt_trichotomy j i with c | c | c
  · exact .inl (Int.le_of_lt (srt_lt P h j i _ p c (List.getElem?_eq_getElem hj) hp))
  · subst c; rw [List.getElem?_eq_getElem hj] at hp; injection hp with hp; exact .inl (by omega)
  · rcases Nat.lt_trichotomy j (i + 1) with c2 | c2 | c2
    · omega
    · subst c2; rw [List.getElem?_eq_getElem hj] at hq; injection hq with hq; exact .inr (by omega)
    · exact .inr (Int.le_of_lt (srt_lt P h (i + 1) j q _ c2 hq (List.getElem?_eq_getElem hj)))

/-- the places where something changes -/
def putAll (d : Int) (all : List Rg) : List Int := all.foldl (fun P x => ins x.2 (ins x.1 P)) (ins d (ins 0 []))

theorem putAll_any : ∀ (all : List Rg) (P : List Int), Srt P → Srt (all.foldl (fun P x => ins x.2 (ins x.1 P)) P) ∧ (∀ y, y ∈ all.foldl (fun P x => ins x.2 (ins x.1 P)) P ↔ y ∈ P ∨ ∃ x ∈ all, y = x.1 ∨ y = x.2) ∧
      (all.foldl (fun P x => ins x.2 (ins x.1 P)) P).length ≤ P.length + 2 * all.length
  | [], P, h => ⟨h, fun y => by simp, by simp⟩
  | x :: t, P, h => by
    obtain ⟨a, b, c⟩ := putAll_any t (ins x.2 (ins x.1 P)) (ins_srt _ _ (ins_srt _ _ h))
    refine ⟨a, fun y => ?_, ?_⟩
    · rw [List.foldl_cons, b y, ins_mem, ins_mem]
      constructor
      · rintro ((h | h | h) | ⟨z, hz, h⟩)
        · exact .inr ⟨x, List.mem_cons_self .., .inr h⟩
        · exact .inr ⟨x, List.mem_cons_self .., .inl h⟩
        · exact .inl h
        · exact .inr ⟨z, List.mem_cons_of_mem _ hz, h⟩
      · rintro (h | ⟨z, hz, h⟩)
        · exact .inl (.inr (.inr h))
        · rcases List.mem_cons.1 hz with rfl | hz
          · rcases h with h | h
            · exact .inl (.inr (.inl h))
            · exact .inl (.inl h)
          · exact .inr ⟨z, hz, h⟩
    · have h1 := ins_len x.2 (ins x.1 P)
      have h2 := ins_len x.1 P
      simp only [List.foldl_cons, List.length_cons]
      omega

/-- what scanning keeps: i places have been looked at, the last of them is p -/
structure Scan (d : Int) (all : List Rg) (p : Int) (out : List Rg) : Prop where
  ch : Ch (-1) out
  le : ∀ x ∈ out, x.2 ≤ p
  set : ∀ n, inR out n ↔ 0 ≤ n ∧ n < p ∧ Came d all n

theorem came_const (d : Int) (all : List Rg) (P : List Int) (hs : Srt P) (hm : ∀ y, y ∈ P ↔ y = 0 ∨ y = d ∨ ∃ x ∈ all, y = x.1 ∨ y = x.2) (i : Nat) (p q : Int) (hp : P[i]? = some p) (hq : P[i + 1]? = some q) (n : Int) (h1 : p ≤ n) (h2 : n < q) :
    Came d all n ↔ Came d all p := by
  have mid : ∀ y, y ∈ P → y ≤ p ∨ q ≤ y := fun y hy => srt_mid P hs i p q y hp hq hy
  have hd := mid d ((hm d).2 (.inr (.inl rfl)))
  unfold Came
  constructor
  · rintro (h | ⟨x, hx, g1, g2⟩)
    · exact .inl (by omega)
    · have a := mid x.1 ((hm _).2 (.inr (.inr ⟨x, hx, .inl rfl⟩)))
      exact .inr ⟨x, hx, by omega, by omega⟩
  · rintro (h | ⟨x, hx, g1, g2⟩)
    · exact .inl (by omega)
    · have b := mid x.2 ((hm _).2 (.inr (.inr ⟨x, hx, .inr rfl⟩)))
      exact .inr ⟨x, hx, by omega, by omega⟩

theorem scan_skip {d : Int} {all : List Rg} {p q : Int} {out : List Rg} (h : Scan d all p out) (hpq : p < q) (hc : ∀ n, p ≤ n → n < q → (Came d all n ↔ Came d all p)) (hno : ¬ Came d all p) : Scan d all q out :=
  ⟨h.ch, fun x hx => by have := h.le x hx; omega, fun n => by
    rw [h.set n]
    constructor
    · rintro ⟨a, b, c⟩; exact ⟨a, by omega, c⟩
    · rintro ⟨a, b, c⟩
      by_cases hn : n < p
      · exact ⟨a, hn, c⟩
      · exact absurd ((hc n (by omega) b).1 c) hno⟩
theorem scan_new {d : Int} {all : List Rg} {p q : Int} {out : List Rg} (h : Scan d all p out) (hp0 : 0 ≤ p) (hpq : p < q) (hc : ∀ n, p ≤ n → n < q → (Came d all n ↔ Came d all p)) (hyes : Came d all p) (hlt : ∀ x ∈ out, x.2 < p) : Scan d all q (out ++ [(p, q)]) :=
  ⟨ch_snoc out (-1) (p, q) h.ch (by simp only; omega) hpq hlt, fun x hx => by
    rcases List.mem_append.1 hx with hx | hx
    · have := h.le x hx; omega
    · simp at hx; rw [hx]; exact Int.le_refl _, fun n => by
    rw [inR_app, inR_one, h.set n]
    constructor
    · rintro (⟨a, b, c⟩ | ⟨a, b⟩)
      · exact ⟨a, by omega, c⟩
      · exact ⟨by simp only at a; omega, b, (hc n a b).2 hyes⟩
    · rintro ⟨a, b, c⟩
      by_cases hn : n < p
      · exact .inl ⟨a, hn, c⟩
      · exact .inr ⟨by simp only; omega, b⟩⟩
theorem ch_last : ∀ (O : List Rg) (lo : Int) (y : Rg), Ch lo (O ++ [y]) → Ch lo O ∧ (∀ x ∈ O, x.2 < y.1) ∧ lo < y.1 ∧ y.1 < y.2
  | [], lo, y, h => ⟨trivial, by simp, h.1, h.2.1⟩
  | x :: t, lo, y, h => by
    obtain ⟨a, b, c, e⟩ := ch_last t x.2 y h.2.2
    have h1 := h.1; have h2 := h.2.1
    refine ⟨⟨h1, h2, a⟩, fun z hz => ?_, by omega, e⟩
    rcases List.mem_cons.1 hz with rfl | hz
    · exact c
    · exact b z hz
theorem scan_ext {d : Int} {all : List Rg} {p q : Int} {O : List Rg} {y : Rg} (h : Scan d all p (O ++ [y])) (hpq : p < q) (hc : ∀ n, p ≤ n → n < q → (Came d all n ↔ Came d all p)) (hyes : Came d all p) (hy : y.2 = p) : Scan d all q (O ++ [(y.1, q)]) := by
  obtain ⟨a, b, c, e⟩ := ch_last O (-1) y h.ch
  refine ⟨ch_snoc O (-1) (y.1, q) a c (by simp only; omega) b, fun x hx => ?_, fun n => ?_⟩
  · rcases List.mem_append.1 hx with hx | hx
    · have := h.le x (List.mem_append_left _ hx); omega
    · simp at hx; rw [hx]; exact Int.le_refl _
  · have hs := h.set n
    rw [inR_app, inR_one] at hs ⊢
    constructor
    · rintro (g | ⟨g1, g2⟩)
      · obtain ⟨k1, k2, k3⟩ := hs.1 (.inl g); exact ⟨k1, by omega, k3⟩
      · simp only at g1 g2
        by_cases hn : n < p
        · obtain ⟨k1, k2, k3⟩ := hs.1 (.inr ⟨g1, by omega⟩); exact ⟨k1, by omega, k3⟩
        · exact ⟨by omega, g2, (hc n (by omega) g2).2 hyes⟩
    · rintro ⟨k1, k2, k3⟩
      by_cases hn : n < p
      · rcases hs.2 ⟨k1, hn, k3⟩ with g | ⟨g1, g2⟩
        · exact .inl g
        · exact .inr ⟨g1, by simp only; omega⟩
      · exact .inr ⟨by simp only; omega, k2⟩
theorem scan_last {d : Int} {all : List Rg} {p : Int} {O : List Rg} {y : Rg} (h : Scan d all p (O ++ [y])) (hy : y.2 ≠ p) : ∀ x ∈ O ++ [y], x.2 < p := by
  obtain ⟨a, b, c, e⟩ := ch_last O (-1) y h.ch
  have hl := h.le y (by simp)
  intro x hx
  rcases List.mem_append.1 hx with hx | hx
  · have := b x hx; omega
  · simp at hx; rw [hx]; omega

/-- what is found is what Add answers -/
theorem scan_end (d : Int) (l : List Rg) (r : Rg) (p : Int) (out : List Rg) (hm : mayB d l = true) (hr : 0 ≤ r.1 ∧ r.1 ≤ r.2 ∧ r.2 ≤ 1048576) (h : Scan d (l ++ [r]) p out) (hp : d ≤ p ∧ ∀ x ∈ l ++ [r], x.2 ≤ p) :
    (∀ e t, out = (0, e) :: t → addD d l r = e ∧ addL d l r = t) ∧ ((∀ e t, out ≠ (0, e) :: t) → addD d l r = 0 ∧ addL d l r = out) := by
  obtain ⟨g0, g1, _, g3⟩ := mayB_to hm
  obtain ⟨k0, k1, k2, k3⟩ := add_good d l r g0 g1 g3 hr.1 hr.2.1 hr.2.2
  have hset : ∀ n, 0 ≤ n → (inR out n ↔ Came (addD d l r) (addL d l r) n) := by
    intro n hn
    rw [h.set n, k3 n]
    have e : Came d (l ++ [r]) n ↔ Came d l n ∨ (r.1 ≤ n ∧ n < r.2) := by unfold Came; rw [inR_app, inR_one, or_assoc]
    rw [e]
    constructor
    · exact fun g => g.2.2
    · intro g
      refine ⟨hn, ?_, g⟩
      rcases e.2 g with g | ⟨x, hx, _, g2⟩
      · omega
      · have := hp.2 x hx; omega
  have hneg : ∀ n, n < 0 → Came (addD d l r) (addL d l r) n := fun n hn => .inl (by omega)
  refine ⟨fun e t ho => ?_, fun hno => ?_⟩
  · subst ho
    have hc := h.ch
    have he : 0 < e := hc.2.1
    refine came_one _ _ _ _ (okB_ch _ _ k2).1 hc.2.2 fun n => ?_
    by_cases hn : 0 ≤ n
    · rw [← hset n hn, inR_cons]
      unfold Came
      simp only
      constructor
      · rintro (g | g)
        · exact .inl g.2
        · exact .inr g
      · rintro (g | g)
        · exact .inl ⟨hn, g⟩
        · exact .inr g
    · exact ⟨fun _ => .inl (by omega), fun _ => hneg n (by omega)⟩
  · have hc : Ch 0 out := by
      cases out with
      | nil => trivial
      | cons x t =>
        obtain ⟨x1, x2⟩ := x
        have h1 := h.ch.1
        have : x1 ≠ 0 := fun e => hno x2 t (by rw [e])
        exact ⟨by simp only at h1 ⊢; omega, h.ch.2.1, h.ch.2.2⟩
    refine came_one _ _ _ _ (okB_ch _ _ k2).1 hc fun n => ?_
    by_cases hn : 0 ≤ n
    · rw [← hset n hn]
      unfold Came
      exact ⟨.inr, fun g => g.elim (fun g => by omega) id⟩
    · exact ⟨fun _ => .inl (by omega), fun _ => hneg n (by omega)⟩

end Go.Proofs.Ytdfidmdgdajgoaa
