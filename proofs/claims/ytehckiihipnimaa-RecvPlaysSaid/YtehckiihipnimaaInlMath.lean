/-
  Mathematics of the document's Inlet.
-/
import Derived.Test.YtehckiihipnimaaRecvMath
namespace Go.Proofs.Ytehckiihipnimaa
set_option linter.unusedVariables false
set_option linter.unusedSimpArgs false

/-- the ranges, of places ahead of p alone -/
def cut : List Rg → Int → List Rg
  | [], _ => []
  | x :: t, p => if p ≤ x.1 then [] else (x.1, min x.2 p) :: cut t p
theorem cut_low (l : List Rg) (lo p : Int) (h : Ch lo l) (hp : p ≤ lo + 1) : cut l p = [] := by
  cases l with
  | nil => rfl
  | cons x t => unfold cut; rw [if_pos (by have := h.1; omega)]
theorem cut_all : ∀ (l : List Rg) (lo p : Int), Ch lo l → (∀ x ∈ l, x.2 ≤ p) → cut l p = l
  | [], _, _, _, _ => rfl
  | x :: t, lo, p, h, hp => by
    have h1 := hp x (List.mem_cons_self ..)
    have h2 := h.2.1
    unfold cut
    rw [if_neg (by omega), cut_all t x.2 p h.2.2 (fun y hy => hp y (List.mem_cons_of_mem _ hy)), show min x.2 p = x.2 by omega]
theorem cut_step : ∀ (l : List Rg) (lo p : Int), Ch lo l → (¬ inR l p ∧ cut l (p + 1) = cut l p) ∨ (inR l p ∧ ∃ l' x1, cut l p = l' ++ [(x1, p)] ∧ cut l (p + 1) = l' ++ [(x1, p + 1)]) ∨ (inR l p ∧ cut l (p + 1) = cut l p ++ [(p, p + 1)] ∧ ∀ y ∈ cut l p, y.2 < p)
  | [], _, p, _ => .inl ⟨inR_nil p, rfl⟩
  | x :: t, lo, p, h => by
    obtain ⟨h1, h2, h3⟩ := h
    rcases Int.lt_trichotomy p x.1 with c | c | c
    · left
      refine ⟨fun q => ?_, ?_⟩
      · rcases (inR_cons _ _ _).1 q with q | q
        · omega
        · have := ch_in t x.2 h3 p q; omega
      · unfold cut; rw [if_pos (by omega), if_pos (by omega)]
    · right; right
      refine ⟨(inR_cons _ _ _).2 (.inl ⟨by omega, by omega⟩), ?_, ?_⟩
      · unfold cut
        rw [if_neg (by omega), if_pos (by omega), cut_low t x.2 (p + 1) h3 (by omega), show min x.2 (p + 1) = p + 1 by omega, ← c]
        rfl
      · unfold cut; rw [if_pos (by omega)]; simp
    · by_cases c2 : p < x.2
      · right; left
        refine ⟨(inR_cons _ _ _).2 (.inl ⟨by omega, c2⟩), [], x.1, ?_, ?_⟩
        · unfold cut
          rw [if_neg (by omega), cut_low t x.2 p h3 (by omega), show min x.2 p = p by omega]; rfl
        · unfold cut
          rw [if_neg (by omega), cut_low t x.2 (p + 1) h3 (by omega), show min x.2 (p + 1) = p + 1 by omega]; rfl
      · have e1 : cut (x :: t) p = (x.1, x.2) :: cut t p := by
          show (if p ≤ x.1 then [] else _) = _
          rw [if_neg (by omega), show min x.2 p = x.2 by omega]
        have e2 : cut (x :: t) (p + 1) = (x.1, x.2) :: cut t (p + 1) := by
          show (if p + 1 ≤ x.1 then [] else _) = _
          rw [if_neg (by omega), show min x.2 (p + 1) = x.2 by omega]
        rw [e1, e2]
        have hi : inR (x :: t) p ↔ inR t p := ⟨fun q => ((inR_cons _ _ _).1 q).elim (fun q => by omega) id, fun q => (inR_cons _ _ _).2 (.inr q)⟩
        rcases cut_step t x.2 p h3 with ⟨q1, q2⟩ | ⟨q1, l', x1, q2, q3⟩ | ⟨q1, q2, q3⟩
        · exact .inl ⟨fun q => q1 (hi.1 q), by rw [q2]⟩
        · exact .inr (.inl ⟨hi.2 q1, (x.1, x.2) :: l', x1, by rw [q2]; rfl, by rw [q3]; rfl⟩)
        · refine .inr (.inr ⟨hi.2 q1, by rw [q2]; rfl, fun y hy => ?_⟩)
          rcases List.mem_cons.1 hy with rfl | hy
          · have := ch_in t x.2 h3 p q1
            simp only; omega
          · exact q3 y hy

/-- the bytes that came -/
def mapOf (s : Hr) : Int → Option Int := fun x => if 0 ≤ x ∧ cameB s.dn s.bt x = true then some (s.data.getD x.toNat 0) else none
theorem mapOf_some {s : Hr} {x : Int} (h0 : 0 ≤ x) : (mapOf s x).isSome = true ↔ Came s.dn s.bt x := by
  unfold mapOf
  by_cases h : cameB s.dn s.bt x = true
  · rw [if_pos ⟨h0, h⟩]; exact ⟨fun _ => cameB_iff.1 h, fun _ => rfl⟩
  · rw [if_neg (fun g => h g.2)]; exact ⟨fun g => by (cases g), fun g => absurd (cameB_iff.2 g) h⟩
theorem mapOf_none {s : Hr} {x : Int} (h0 : 0 ≤ x) : mapOf s x = none ↔ ¬ Came s.dn s.bt x := by
  rw [← mapOf_some h0]
  cases mapOf s x <;> simp

/-- the places of the first k bytes that are kept -/
def frC (s : Hr) (a : Ar) (k : Nat) (x : Int) : Prop := a.at_ ≤ x ∧ x < a.at_ + k ∧ mapOf s x = none ∧ s.dn ≤ x ∧ x < s.taken + s.room
instance (s : Hr) (a : Ar) (k : Nat) (x : Int) : Decidable (frC s a k x) := by unfold frC; infer_instance
/-- the map behind the first k bytes -/
def mapK (s : Hr) (a : Ar) (k : Nat) : Int → Option Int := fun x => if frC s a k x then some (a.data.getD (x - a.at_).toNat 0) else mapOf s x
theorem mapK_zero (s : Hr) (a : Ar) (x : Int) : mapK s a 0 x = mapOf s x := by
  unfold mapK; rw [if_neg (fun h => by have := h.1; have := h.2.1; omega)]
theorem mapK_put {s : Hr} (h : HrOk s) (a : Ar) (h1 : ¬ (a.at_ < 0 ∨ 1048576 - (a.data.length : Int) ≤ a.at_)) (x : Int) : mapOf (putR s a (fits s a)) x = mapK s a a.data.length x := by
  obtain ⟨f1, f2, f3, f4, f5, f6⟩ := fits_bd h h1
  obtain ⟨m1, m2, m3, m4, m5, m6⟩ := hmay_parts h.may
  have e1 : (fits s a).1 = min a.at_ (s.taken + s.room) := rfl
  have e2 : (fits s a).2 = min (a.at_ + a.data.length) (s.taken + s.room) := rfl
  obtain ⟨r, hr⟩ : ∃ r, r = fits s a := ⟨_, rfl⟩
  rw [← hr] at f1 f2 f3 f4 f5 f6 e1 e2 ⊢
  obtain ⟨g1, g2, g3, g4⟩ := add_good s.dn s.bt r m1 m2 m6 f1 f2 (by omega)
  have hgl := growTo_len s.data r.2 (by omega)
  unfold mapK
  by_cases h0 : 0 ≤ x
  · have hin : (r.1 ≤ x ∧ x < r.2) ↔ (a.at_ ≤ x ∧ x < a.at_ + (a.data.length : Int) ∧ x < s.taken + s.room) := by omega
    have hcc : Came (putR s a r).dn (putR s a r).bt x ↔ Came s.dn s.bt x ∨ (r.1 ≤ x ∧ x < r.2) := g4 x
    have hv : (putR s a r).data.getD x.toNat 0 = (if r.1 ≤ (x.toNat : Int) ∧ (x.toNat : Int) < r.1 + ((r.2 - r.1).toNat : Nat) ∧ cameB s.dn s.bt (x.toNat : Int) = false ∧ x.toNat < (growTo s.data r.2).length then a.data.getD ((x.toNat : Int) - r.1).toNat 0 else (growTo s.data r.2).getD x.toNat 0) := kept_get s.dn s.bt r.1 a.data (growTo s.data r.2) f1 (r.2 - r.1).toNat x.toNat
    have hxx : (x.toNat : Int) = x := by omega
    rw [hxx, growTo_get] at hv
    by_cases hc : Came s.dn s.bt x
    · have hm : mapOf s x = some (s.data.getD x.toNat 0) := by unfold mapOf; rw [if_pos ⟨h0, cameB_iff.2 hc⟩]
      rw [if_neg (fun g : frC s a a.data.length x => by have q := g.2.2.1; rw [hm] at q; cases q), hm]
      unfold mapOf
      rw [if_pos ⟨h0, cameB_iff.2 (hcc.2 (.inl hc))⟩, hv, if_neg (fun g => by rw [cameB_iff.2 hc] at g; cases g.2.2.1)]
    · have hm : mapOf s x = none := (mapOf_none h0).2 hc
      have hdx : s.dn ≤ x := by
        rcases Int.lt_or_le x s.dn with q | q
        · exact absurd (.inl q) hc
        · exact q
      by_cases hr2 : r.1 ≤ x ∧ x < r.2
      · have hq := hin.1 hr2
        rw [if_pos (show frC s a a.data.length x from ⟨hq.1, hq.2.1, hm, hdx, hq.2.2⟩)]
        unfold mapOf
        rw [if_pos ⟨h0, cameB_iff.2 (hcc.2 (.inr hr2))⟩, hv, if_pos ⟨hr2.1, by omega, cameB_not.2 hc, by omega⟩, show r.1 = a.at_ by omega]
      · rw [if_neg (fun g : frC s a a.data.length x => hr2 (hin.2 ⟨g.1, g.2.1, g.2.2.2.2⟩)), hm]
        unfold mapOf
        rw [if_neg (fun g => by
          rcases hcc.1 (cameB_iff.1 g.2) with q | q
          · exact hc q
          · exact hr2 q)]
  · rw [if_neg (fun g : frC s a a.data.length x => by have := g.2.2.2.1; omega)]
    unfold mapOf
    rw [if_neg (fun g => h0 g.1), if_neg (fun g => h0 g.1)]

theorem frC_succ (s : Hr) (a : Ar) (k : Nat) (x : Int) : frC s a (k + 1) x ↔ frC s a k x ∨ (x = a.at_ + k ∧ mapOf s x = none ∧ s.dn ≤ x ∧ x < s.taken + s.room) := by
  unfold frC
  constructor
  · rintro ⟨h1, h2, h3, h4, h5⟩
    by_cases g : x = a.at_ + k
    · exact .inr ⟨g, h3, h4, h5⟩
    · exact .inl ⟨h1, by omega, h3, h4, h5⟩
  · rintro (⟨h1, h2, h3, h4, h5⟩ | ⟨h1, h3, h4, h5⟩)
    · exact ⟨h1, by omega, h3, h4, h5⟩
    · exact ⟨by omega, by omega, h3, h4, h5⟩
theorem mapK_at (s : Hr) (a : Ar) (k : Nat) : mapK s a k (a.at_ + k) = mapOf s (a.at_ + k) := by
  unfold mapK; rw [if_neg (fun h => by have := h.2.1; omega)]
theorem mapK_skip {s : Hr} {a : Ar} {k : Nat} (h : ¬ (mapOf s (a.at_ + k) = none ∧ s.dn ≤ a.at_ + k ∧ a.at_ + k < s.taken + s.room)) (x : Int) : (mapK s a (k + 1) x = mapK s a k x) ∧ (frC s a (k + 1) x ↔ frC s a k x) := by
  have e : frC s a (k + 1) x ↔ frC s a k x := by
    rw [frC_succ]
    exact ⟨fun g => g.elim id (fun ⟨g1, g2⟩ => by rw [g1] at g2; exact absurd g2 h), .inl⟩
  refine ⟨?_, e⟩
  unfold mapK
  by_cases g : frC s a k x
  · rw [if_pos g, if_pos (e.2 g)]
  · rw [if_neg g, if_neg (fun q => g (e.1 q))]
theorem mapK_step {s : Hr} {a : Ar} {k : Nat} {z : Int} (h : mapOf s (a.at_ + k) = none ∧ s.dn ≤ a.at_ + k ∧ a.at_ + k < s.taken + s.room) (hz : a.data[k]? = some z) (x : Int) : mapK s a (k + 1) x = (if x = a.at_ + k then some z else mapK s a k x) := by
  by_cases e : x = a.at_ + k
  · rw [if_pos e]
    unfold mapK
    rw [if_pos ((frC_succ s a k x).2 (.inr ⟨e, by rw [e]; exact h⟩)), e, show (a.at_ + (k : Int) - a.at_).toNat = k by omega, List.getD_eq_getElem?_getD, hz]; rfl
  · rw [if_neg e]
    have e2 : frC s a (k + 1) x ↔ frC s a k x := by
      rw [frC_succ]
      exact ⟨fun g => g.elim id (fun g => absurd g.1 e), .inl⟩
    unfold mapK
    by_cases g : frC s a k x
    · rw [if_pos g, if_pos (e2.2 g)]
    · rw [if_neg g, if_neg (fun q => g (e2.1 q))]
/-- what holds of an arrival's ranges, be they too many or not -/
theorem put_facts {s : Hr} (h : HrOk s) (a : Ar) (h1 : ¬ (a.at_ < 0 ∨ 1048576 - (a.data.length : Int) ≤ a.at_)) : s.taken ≤ (putR s a (fits s a)).dn ∧ (putR s a (fits s a)).dn ≤ 1048576 ∧ okB (putR s a (fits s a)).dn (putR s a (fits s a)).bt = true ∧ (putR s a (fits s a)).dn ≤ s.taken + s.room ∧ ∀ x ∈ (putR s a (fits s a)).bt, x.2 ≤ s.taken + s.room := by
  obtain ⟨f1, f2, f3, f4, f5, f6⟩ := fits_bd h h1
  obtain ⟨m1, m2, m3, m4, m5, m6⟩ := hmay_parts h.may
  obtain ⟨g1, g2, g3, g4⟩ := add_good s.dn s.bt (fits s a) m1 m2 m6 f1 f2 (by omega)
  have t1 := add_top h.may f1 f2 (by omega) (s.taken + s.room) h.d1 h.d2 (fun _ => f4)
  have := h.t1
  exact ⟨by show s.taken ≤ addD s.dn s.bt (fits s a); omega, g2, g3, t1.1, t1.2⟩

end Go.Proofs.Ytehckiihipnimaa
