/-
  A store into an own row of structs.
-/
import Derived.Test.YtehckiihipnimaaArrs
namespace Go.Proofs.Ytehckiihipnimaa
open Go.RowKit
set_option linter.unusedVariables false
set_option linter.unusedSimpArgs false

theorem Shape.flat_set {α : Type} (F : Shape α) : ∀ (l : List α) (k : Nat) (x y : α) (j : Nat) (v : Value), l[k]? = some x → j < F.size → F.cells y = (F.cells x).set j v → F.flat (l.set k y) = (F.flat l).set (k * F.size + j) v
  | [], k, x, y, j, v, h, _, _ => by simp at h
  | z :: t, 0, x, y, j, v, h, hj, hv => by
    simp at h; subst h
    show F.cells y ++ F.flat t = (F.cells z ++ F.flat t).set (0 * F.size + j) v
    rw [Nat.zero_mul, Nat.zero_add, List.set_append_left _ _ (by rw [F.len]; exact hj), hv]
  | z :: t, k + 1, x, y, j, v, h, hj, hv => by
    have ih := Shape.flat_set F t k x y j v (by simpa using h) hj hv
    show F.cells z ++ F.flat (t.set k y) = (F.cells z ++ F.flat t).set ((k + 1) * F.size + j) v
    rw [List.set_append_right _ _ (by rw [F.len, Nat.succ_mul]; omega), F.len, show (k + 1) * F.size + j - F.size = k * F.size + j by rw [Nat.succ_mul]; omega, ih]
theorem OwnL.putL {α : Type} {F : Shape α} {e : TypeId} {w : World} {base g : Nat} {n c : Nat} {l : List α} (h : OwnL F e w base (some ⟨g, 0, none⟩) n c l) (k : Nat) (x y : α) (j : Nat) (v : Value) (hk : l[k]? = some x) (hj : j < F.size) (hy : F.cells y = (F.cells x).set j v) :
    OwnL F e (w.setCell ⟨g, k * F.size + j, none⟩ v) base (some ⟨g, 0, none⟩) n c (l.set k y) := by
  obtain ⟨h1, h2⟩ := h.2.stored (k * F.size + j) v
  refine ⟨by rw [List.length_set]; exact h.1, ?_⟩
  rw [F.flat_set l k x y j v hk hj hy]; exact h1
theorem OwnL.softL {α : Type} {F : Shape α} {e : TypeId} {w : World} {base g : Nat} {n c : Nat} {l : List α} (h : OwnL F e w base (some ⟨g, 0, none⟩) n c l) (j : Nat) : w.frozen? ⟨g, j, none⟩ = false := h.2.frozenAt j

end Go.Proofs.Ytehckiihipnimaa
