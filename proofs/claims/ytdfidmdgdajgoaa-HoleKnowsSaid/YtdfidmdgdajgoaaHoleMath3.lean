/-
  Plain mathematics of layer 3, the third part: ranges that come in whatever order.
-/
import Derived.Test.YtdfidmdgdajgoaaHoleMath2
namespace Go.Proofs.Ytdfidmdgdajgoaa
set_option linter.unusedVariables false

def okR (r : Rg) : Prop := 0 ≤ r.1 ∧ r.1 ≤ r.2 ∧ r.2 ≤ 1048576

theorem fold_set : ∀ (rs : List Rg) (s : Int × List Rg), (∀ r ∈ rs, okR r) → mayB s.1 s.2 = true → s.2.length + rs.length ≤ 16 →
    mayB (rs.foldl heapStep s).1 (rs.foldl heapStep s).2 = true ∧ (rs.foldl heapStep s).2.length ≤ s.2.length + rs.length ∧ ∀ x, Came (rs.foldl heapStep s).1 (rs.foldl heapStep s).2 x ↔ Came s.1 s.2 x ∨ inR rs x
  | [], s, _, h, _ => ⟨h, Nat.le_refl _, fun x => by simp [inR_nil]⟩
  | r :: t, s, hr, h, hl => by
    have h1 := hr r (List.mem_cons_self ..)
    have hlen := addL_len s.1 s.2 r
    simp only [List.length_cons] at hl
    have e : heapStep s r = (addD s.1 s.2 r, addL s.1 s.2 r) := by unfold heapStep; rw [if_pos (by omega)]
    obtain ⟨g0, g1, g2, g3⟩ := mayB_to h
    have ha := (add_good s.1 s.2 r g0 g1 g3 h1.1 h1.2.1 h1.2.2).2.2.2
    obtain ⟨k1, k2, k3⟩ := fold_set t (heapStep s r) (fun x hx => hr x (List.mem_cons_of_mem _ hx)) (by rw [e]; exact add_may h h1 (by omega)) (by rw [e]; simp only; omega)
    simp only [List.foldl_cons, List.length_cons]
    refine ⟨k1, ?_, fun x => ?_⟩
    · rw [e] at k2 ⊢; simp only at k2; omega
    · rw [k3 x, e, inR_cons, ← or_assoc]
      simp only
      rw [ha x]

theorem fold_same : ∀ (rs : List Rg) (s : Int × List Rg), (∀ r ∈ rs, okR r) → mayB s.1 s.2 = true → (∀ x, inR rs x → Came s.1 s.2 x) → rs.foldl heapStep s = s
  | [], s, _, _, _ => rfl
  | r :: t, s, hr, h, hin => by
    have h1 := hr r (List.mem_cons_self ..)
    obtain ⟨g0, g1, g2, g3⟩ := mayB_to h
    obtain ⟨k0, k1, k2, k3⟩ := add_good s.1 s.2 r g0 g1 g3 h1.1 h1.2.1 h1.2.2
    obtain ⟨e1, e2⟩ := came_one _ _ _ _ (okB_ch _ _ k2).1 (okB_ch _ _ g3).1 (fun n => by
      rw [k3 n]
      exact ⟨fun g => g.elim id fun g => hin n ((inR_cons _ _ _).2 (.inl g)), .inl⟩)
    have e : heapStep s r = s := by unfold heapStep; rw [e2, if_pos g2, e1]
    rw [List.foldl_cons, e]
    exact fold_same t s (fun x hx => hr x (List.mem_cons_of_mem _ hx)) h (fun x hx => hin x ((inR_cons _ _ _).2 (.inr hx)))

theorem pairs_ok (l : List Int) : ∀ r ∈ pairsOf l, okR r := by
  induction l using pairsOf.induct with
  | case1 a b t ih =>
    intro r hr
    rw [pairsOf] at hr
    rcases List.mem_cons.1 hr with rfl | hr
    · exact rgOf_bd a b
    · exact ih r hr
  | case2 l h =>
    intro r hr
    rw [pairsOf] at hr
    · cases hr
    · exact h
theorem pairs_len (k : Nat) : ∀ (l : List Int), l.length = 2 * k → (pairsOf l).length = k := by
  induction k with
  | zero => intro l h; rw [List.eq_nil_of_length_eq_zero (show l.length = 0 by omega)]; rfl
  | succ k ih =>
    intro l h
    match l, h with
    | a :: b :: t, h => simp only [pairsOf, List.length_cons]; rw [ih t (by simp at h; omega)]
theorem pairs_app (k : Nat) : ∀ (l m : List Int), l.length = 2 * k → pairsOf (l ++ m) = pairsOf l ++ pairsOf m := by
  induction k with
  | zero => intro l m h; rw [List.eq_nil_of_length_eq_zero (show l.length = 0 by omega)]; rfl
  | succ k ih =>
    intro l m h
    match l, h with
    | a :: b :: t, h => simp only [List.cons_append, pairsOf]; rw [ih t m (by simp at h; omega)]
theorem pairs_at : ∀ (i : Nat) (l : List Int) (a b : Int), l[2 * i]? = some a → l[2 * i + 1]? = some b → (pairsOf l)[i]? = some (rgOf a b)
  | 0, l, a, b, ha, hb => by
    match l, ha, hb with
    | x :: y :: t, ha, hb => simp at ha hb; subst ha; subst hb; rfl
  | i + 1, l, a, b, ha, hb => by
    match l, ha, hb with
    | x :: y :: t, ha, hb =>
      simp only [pairsOf, List.getElem?_cons_succ]
      exact pairs_at i t a b (by simpa [Nat.mul_add] using ha) (by simpa [Nat.mul_add] using hb)

/-- WHATEVER THE ORDER, and however often. -/
theorem knows (k : Nat) (X Y : List Int) (hX : X.length = 2 * k) (hY : Y.length = 2 * k) (hk : k ≤ 12) (hset : ∀ x, inR (pairsOf Y) x ↔ inR (pairsOf X) x) :
    heapOf (Y ++ X) 24 = heapOf X 12 ∧ ∀ x, Came (heapOf X 12).1 (heapOf X 12).2 x ↔ x < 0 ∨ inR (pairsOf X) x := by
  have lX := pairs_len k X hX
  have lY := pairs_len k Y hY
  have h0 : mayB (0, ([] : List Rg)).1 (0, ([] : List Rg)).2 = true := rfl
  obtain ⟨a1, a2, a3⟩ := fold_set (pairsOf X) (0, []) (pairs_ok X) h0 (by simp; omega)
  obtain ⟨b1, b2, b3⟩ := fold_set (pairsOf Y) (0, []) (pairs_ok Y) h0 (by simp; omega)
  have eX : heapOf X 12 = (pairsOf X).foldl heapStep (0, []) := by unfold heapOf; rw [List.take_of_length_le (by omega)]
  have eY : heapOf (Y ++ X) 24 = (pairsOf X).foldl heapStep ((pairsOf Y).foldl heapStep (0, [])) := by
    unfold heapOf
    rw [pairs_app k Y X hY, List.take_of_length_le (by simp; omega), List.foldl_append]
  obtain ⟨e1, e2⟩ := came_one _ _ _ _ (okB_ch _ _ (mayB_to b1).2.2.2).1 (okB_ch _ _ (mayB_to a1).2.2.2).1 (fun n => by rw [b3 n, a3 n, hset n])
  have e : (pairsOf Y).foldl heapStep (0, []) = (pairsOf X).foldl heapStep (0, []) := Prod.ext e1 e2
  refine ⟨?_, fun x => ?_⟩
  · rw [eY, e, fold_same (pairsOf X) _ (pairs_ok X) a1 (fun x hx => (a3 x).2 (.inr hx)), eX]
  · rw [eX, a3 x]
    simp [Came, inR_nil]

theorem rot_set (k t : Nat) (P Q : List Rg) (hP : P.length = k) (h : ∀ r, r ∈ Q ↔ ∃ j, j < k ∧ P[(j + t) % k]? = some r) (x : Int) : inR Q x ↔ inR P x := by
  constructor
  · rintro ⟨r, hr, g⟩
    obtain ⟨j, hj, hp⟩ := (h r).1 hr
    exact ⟨r, List.mem_of_getElem? hp, g⟩
  · rintro ⟨r, hr, g⟩
    obtain ⟨i, hi, rfl⟩ := List.mem_iff_getElem.1 hr
    obtain ⟨j, hj, hji⟩ := rot_cover k t (by omega) i (by omega)
    exact ⟨_, (h _).2 ⟨j, hj, by rw [hji, List.getElem?_eq_getElem hi]⟩, g⟩

end Go.Proofs.Ytdfidmdgdajgoaa
