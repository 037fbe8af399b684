/-
  A request in a box: its places as parts.
-/
import Derived.Test.YtelfnlocgknpjaaMChecks
namespace Go.Proofs.Ytelfnlocgknpjaa
open Go.RowKit
set_option linter.unusedVariables false
set_option linter.unusedSimpArgs false

def kindOk : Pt → Nat → Prop
  | .num _ _, o => o = 0 ∨ o = 1 ∨ o = 4 ∨ o = 5 ∨ o = 6 ∨ o = 7
  | .txt _, o => o = 2 ∨ o = 3
  | .dat _, o => o = 8
structure Good (B : Nat) (ps : List Pt) : Prop where
  loc : ∀ (j : Nat) (p : Pt), ps[j]? = some p → ∃ o, o < 9 ∧ p.adr = ⟨B, o, none⟩ ∧ kindOk p o
  one : ∀ (i j : Nat) (p q : Pt), ps[i]? = some p → ps[j]? = some q → p.adr.off = q.adr.off → i = j
/-- a request's fields as they stand in memory -/
def rqC (f : Nat → PV) : Array Value := #[(f 0).cell, (f 1).cell, (f 2).cell, (f 3).cell, (f 4).cell, (f 5).cell, (f 6).cell, (f 7).cell, (f 8).cell]
structure Typed (f : Nat → PV) : Prop where
  num : ∀ o, (o = 0 ∨ o = 1 ∨ o = 4 ∨ o = 5 ∨ o = 6 ∨ o = 7) → ∃ v, f o = .n v
  txt : ∀ o, (o = 2 ∨ o = 3) → ∃ s, f o = .t s
  dat : ∃ D m d zs, f 8 = .d D m d zs
theorem rqC_at (f : Nat → PV) (o : Nat) (h : o < 9) : (rqC f)[o]? = some (f o).cell := by
  have : o = 0 ∨ o = 1 ∨ o = 2 ∨ o = 3 ∨ o = 4 ∨ o = 5 ∨ o = 6 ∨ o = 7 ∨ o = 8 := by omega
  rcases this with rfl | rfl | rfl | rfl | rfl | rfl | rfl | rfl | rfl <;> rfl
theorem rqC_set (f : Nat → PV) (o : Nat) (h : o < 9) (v : PV) : (rqC f).modify o (fun _ => v.cell) = rqC (upd f o v) := by
  have : o = 0 ∨ o = 1 ∨ o = 2 ∨ o = 3 ∨ o = 4 ∨ o = 5 ∨ o = 6 ∨ o = 7 ∨ o = 8 := by omega
  rcases this with rfl | rfl | rfl | rfl | rfl | rfl | rfl | rfl | rfl <;> rfl
theorem typed_set {f : Nat → PV} (h : Typed f) {p : Pt} {o : Nat} (hk : kindOk p o) {v : PV} (hf : p.fit v) : Typed (upd f o v) := by
  rcases p with ⟨a, k⟩ | a | a <;> rcases v with v | s | ⟨D, m, d, zs⟩ <;> try (exact hf.elim)
  · refine ⟨fun x hx => ?_, fun x hx => ?_, ?_⟩
    · unfold upd; split
      · exact ⟨v, rfl⟩
      · exact h.num x hx
    · have hk' : o = 0 ∨ o = 1 ∨ o = 4 ∨ o = 5 ∨ o = 6 ∨ o = 7 := hk
      unfold upd; rw [if_neg (by omega)]; exact h.txt x hx
    · have hk' : o = 0 ∨ o = 1 ∨ o = 4 ∨ o = 5 ∨ o = 6 ∨ o = 7 := hk
      unfold upd; rw [if_neg (by omega)]; exact h.dat
  · refine ⟨fun x hx => ?_, fun x hx => ?_, ?_⟩
    · have hk' : o = 2 ∨ o = 3 := hk
      unfold upd; rw [if_neg (by omega)]; exact h.num x hx
    · unfold upd; split
      · exact ⟨s, rfl⟩
      · exact h.txt x hx
    · have hk' : o = 2 ∨ o = 3 := hk
      unfold upd; rw [if_neg (by omega)]; exact h.dat
  · refine ⟨fun x hx => ?_, fun x hx => ?_, ?_⟩
    · have hk' : o = 8 := hk
      unfold upd; rw [if_neg (by omega)]; exact h.num x hx
    · have hk' : o = 8 := hk
      unfold upd; rw [if_neg (by omega)]; exact h.txt x hx
    · have hk' : o = 8 := hk
      subst hk'
      exact ⟨D, m, d, zs, upd_same _ _ _⟩
/-- a request in its box: what is named is told by σ, all else as g tells -/
def RqI (B : Nat) (ps : List Pt) (g : Nat → PV) (w : World) (σ : Nat → PV) : Prop :=
  ∃ f : Nat → PV, Bx 24 w B (rqC f) ∧ Typed f ∧ (∀ (j : Nat) (p : Pt), ps[j]? = some p → σ j = f p.adr.off) ∧ (∀ o, (∀ p ∈ ps, p.adr.off ≠ o) → f o = g o) ∧ (f 8).ok (· = B) w
theorem okBelow {T : Nat → Prop} {w w' : World} {v : PV} (h : v.ok T w) (hb : Below w.heap.size w w') : v.ok T w' := by
  rcases v with v | s | ⟨D, m, d, zs⟩
  · trivial
  · trivial
  · exact ⟨h.1.below hb, h.2.1, h.2.2⟩
theorem okSet {T : Nat → Prop} {w : World} {v : PV} (h : v.ok T w) {B o : Nat} (hT : T B) (u : Value) : v.ok T (w.setCell ⟨B, o, none⟩ u) := by
  rcases v with v | s | ⟨D, m, d, zs⟩
  · trivial
  · trivial
  · obtain ⟨h1, h2, h3⟩ := h
    refine ⟨?_, h2, h3⟩
    rcases h3 with rfl | h3
    · exact Ls.nil _ _
    · exact h1.only ((Only.refl T w).setCell (.inl hT) u) h3
theorem fit_of {f : Nat → PV} (h : Typed f) {p : Pt} {o : Nat} (hk : kindOk p o) : p.fit (f o) := by
  rcases p with ⟨a, k⟩ | a | a
  · obtain ⟨v, hv⟩ := h.num o hk; rw [hv]; trivial
  · obtain ⟨v, hv⟩ := h.txt o hk; rw [hv]; trivial
  · obtain ⟨D, m, d, zs, hv⟩ := h.dat
    have hk' : o = 8 := hk
    rw [hk', hv]; trivial
theorem rq_fm (B : Nat) (ps : List Pt) (hg : Good B ps) (g : Nat → PV) : Fm (· = B) ps (RqI B ps g) where
  mem := fun i p h => by
    obtain ⟨o, h1, h2, h3⟩ := hg.loc i p h
    rw [h2]; exact ⟨rfl, rfl⟩
  get := fun w σ i p hI h => by
    obtain ⟨o, h1, h2, h3⟩ := hg.loc i p h
    obtain ⟨f, k1, k2, k3, k4, k5⟩ := hI
    have hs := k3 i p h
    rw [h2] at hs ⊢
    rw [hs]
    exact ⟨k1.lt, k1.cell o _ (rqC_at f o h1), k1.soft o, fit_of k2 h3⟩
  put := fun w σ i p v hI h hf hv => by
    obtain ⟨o, h1, h2, h3⟩ := hg.loc i p h
    obtain ⟨f, k1, k2, k3, k4, k5⟩ := hI
    rw [h2]
    refine ⟨upd f o v, by rw [← rqC_set f o h1 v]; exact k1.set o _, typed_set k2 h3 hf, fun j q hq => ?_, fun x hx => ?_, ?_⟩
    · unfold upd
      by_cases e : j = i
      · subst e
        rw [h] at hq; injection hq with hq; subst hq
        rw [if_pos rfl, h2, if_pos rfl]
      · rw [if_neg e, if_neg (fun e2 => e (hg.one j i q p hq h (by rw [e2, h2]))), k3 j q hq]
    · unfold upd
      rw [if_neg (fun e => hx p (List.mem_of_getElem? h) (by rw [h2, e]))]
      exact k4 x hx
    · by_cases e : 8 = o
      · subst e
        rw [upd_same]; exact okSet hv rfl _
      · have : upd f o v 8 = f 8 := if_neg e
        rw [this]; exact okSet k5 rfl _
  new := fun w w' σ hI hb => by
    obtain ⟨f, k1, k2, k3, k4, k5⟩ := hI
    exact ⟨f, k1.below hb, k2, k3, k4, okBelow k5 hb⟩
theorem good_parts (B : Nat) (kd : Int) : Good B (partsOf B kd) := by
  have h2 : ∀ (a b : Pt), partsOf B kd = [.num (at_ B 0) 1, .num (at_ B 1) 4] ++ namedBy B kd := fun _ _ => rfl
  constructor
  · intro j p h
    unfold partsOf namedBy at h
    repeat' split at h
    all_goals
      rcases j with _ | _ | _ | _ | _ | j <;> simp at h <;> subst h <;> first | exact ⟨0, by omega, rfl, .inl rfl⟩ | exact ⟨1, by omega, rfl, .inr (.inl rfl)⟩ | exact ⟨2, by omega, rfl, .inl rfl⟩ | exact ⟨3, by omega, rfl, .inr rfl⟩ | exact ⟨4, by omega, rfl, .inr (.inr (.inl rfl))⟩ | exact ⟨5, by omega, rfl, .inr (.inr (.inr (.inl rfl)))⟩ | exact ⟨6, by omega, rfl, .inr (.inr (.inr (.inr (.inl rfl))))⟩ | exact ⟨7, by omega, rfl, .inr (.inr (.inr (.inr (.inr rfl))))⟩ | exact ⟨8, by omega, rfl, rfl⟩
  · intro i j p q hp hq he
    unfold partsOf namedBy at hp hq
    repeat' split at hp
    all_goals
      rcases i with _ | _ | _ | _ | _ | i <;> simp at hp <;> subst hp <;> rcases j with _ | _ | _ | _ | _ | j <;> simp_all <;> (subst hq; simp [Pt.adr, at_] at he)

end Go.Proofs.Ytelfnlocgknpjaa
