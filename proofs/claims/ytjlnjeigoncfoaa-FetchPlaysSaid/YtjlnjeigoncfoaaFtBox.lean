/-
  A struct of four in a block of its own: a store of all of it. Nothing of the program.
-/
import Derived.Test.YtjlnjeigoncfoaaOnly
namespace Go.Proofs.Ytjlnjeigoncfoaa
open Go.RowKit
set_option linter.unusedVariables false

def put4 (w : World) (B : Nat) (v0 v1 v2 v3 : Value) : World := (((w.setCell ⟨B, 0, none⟩ v0).setCell ⟨B, 1, none⟩ v1).setCell ⟨B, 2, none⟩ v2).setCell ⟨B, 3, none⟩ v3
theorem Bx.put4 {t : TypeId} {w : World} {B : Nat} {a0 a1 a2 a3 : Value} (h : Bx t w B #[a0, a1, a2, a3]) (v0 v1 v2 v3 : Value) : Bx t (put4 w B v0 v1 v2 v3) B #[v0, v1, v2, v3] := by
  have h0 : Bx t (w.setCell ⟨B, 0, none⟩ v0) B #[v0, a1, a2, a3] := h.set 0 v0
  have h1 : Bx t ((w.setCell ⟨B, 0, none⟩ v0).setCell ⟨B, 1, none⟩ v1) B #[v0, v1, a2, a3] := h0.set 1 v1
  have h2 := h1.set 2 v2
  have h2 : Bx t _ B #[v0, v1, v2, a3] := h2
  exact h2.set 3 v3
theorem only_put4 (w : World) (B : Nat) (v0 v1 v2 v3 : Value) : Only (fun k => k = B) w (put4 w B v0 v1 v2 v3) :=
  ((((Only.refl (fun k => k = B) w).setCell (.inl rfl) v0).setCell (.inl rfl) v1).setCell (.inl rfl) v2).setCell (.inl rfl) v3
theorem Bx.cells4 {t : TypeId} {w : World} {B : Nat} {a0 a1 a2 a3 : Value} (h : Bx t w B #[a0, a1, a2, a3]) :
    B < w.heap.size ∧ w.cell? ⟨B, 0, none⟩ = some a0 ∧ w.cell? ⟨B, 1, none⟩ = some a1 ∧ w.cell? ⟨B, 2, none⟩ = some a2 ∧ w.cell? ⟨B, 3, none⟩ = some a3 ∧ w.frozen? ⟨B, 0, none⟩ = false ∧ w.frozen? ⟨B, 1, none⟩ = false ∧ w.frozen? ⟨B, 2, none⟩ = false ∧ w.frozen? ⟨B, 3, none⟩ = false :=
  ⟨h.lt, h.cell 0 _ rfl, h.cell 1 _ rfl, h.cell 2 _ rfl, h.cell 3 _ rfl, h.soft 0, h.soft 1, h.soft 2, h.soft 3⟩

end Go.Proofs.Ytjlnjeigoncfoaa
