/-
  A struct of nine in a block of its own: its cells, a store of all of it. Nothing of the program.
-/
import Derived.Test.YthjpighlcalocaaGreatDoorOnly
namespace Go.Proofs.YthjpighlcalocaaGreatDoor
open Go.RowKit
set_option linter.unusedVariables false

def put9 (w : World) (B : Nat) (v0 v1 v2 v3 v4 v5 v6 v7 v8 : Value) : World :=
  ((((((((w.setCell ⟨B, 0, none⟩ v0).setCell ⟨B, 1, none⟩ v1).setCell ⟨B, 2, none⟩ v2).setCell ⟨B, 3, none⟩ v3).setCell ⟨B, 4, none⟩ v4).setCell ⟨B, 5, none⟩ v5).setCell ⟨B, 6, none⟩ v6).setCell ⟨B, 7, none⟩ v7).setCell ⟨B, 8, none⟩ v8
variable {t : TypeId} {w : World} {B : Nat} {a0 a1 a2 a3 a4 a5 a6 a7 a8 : Value}
theorem Bx.put9 (h : Bx t w B #[a0, a1, a2, a3, a4, a5, a6, a7, a8]) (v0 v1 v2 v3 v4 v5 v6 v7 v8 : Value) : Bx t (put9 w B v0 v1 v2 v3 v4 v5 v6 v7 v8) B #[v0, v1, v2, v3, v4, v5, v6, v7, v8] := by
  have h := h.set 0 v0
  have h : Bx t _ B #[v0, a1, a2, a3, a4, a5, a6, a7, a8] := h
  have h := h.set 1 v1
  have h : Bx t _ B #[v0, v1, a2, a3, a4, a5, a6, a7, a8] := h
  have h := h.set 2 v2
  have h : Bx t _ B #[v0, v1, v2, a3, a4, a5, a6, a7, a8] := h
  have h := h.set 3 v3
  have h : Bx t _ B #[v0, v1, v2, v3, a4, a5, a6, a7, a8] := h
  have h := h.set 4 v4
  have h : Bx t _ B #[v0, v1, v2, v3, v4, a5, a6, a7, a8] := h
  have h := h.set 5 v5
  have h : Bx t _ B #[v0, v1, v2, v3, v4, v5, a6, a7, a8] := h
  have h := h.set 6 v6
  have h : Bx t _ B #[v0, v1, v2, v3, v4, v5, v6, a7, a8] := h
  have h := h.set 7 v7
  have h : Bx t _ B #[v0, v1, v2, v3, v4, v5, v6, v7, a8] := h
  exact h.set 8 v8
theorem below_put9 {w0 : World} {K : Nat} (h : Below K w0 w) (hS : K ≤ B) (v0 v1 v2 v3 v4 v5 v6 v7 v8 : Value) : Below K w0 (put9 w B v0 v1 v2 v3 v4 v5 v6 v7 v8) :=
  ((((((((h.setCell hS v0).setCell hS v1).setCell hS v2).setCell hS v3).setCell hS v4).setCell hS v5).setCell hS v6).setCell hS v7).setCell hS v8
theorem only_set9 {S : Nat → Prop} {w0 : World} (h : Only S w0 w) (hB : S B) (j : Nat) (u : Value) : Only S w0 (w.setCell ⟨B, j, none⟩ u) := h.setCell (.inl hB) u
theorem only_put9 (w : World) (B : Nat) (v0 v1 v2 v3 v4 v5 v6 v7 v8 : Value) : Only (fun k => k = B) w (put9 w B v0 v1 v2 v3 v4 v5 v6 v7 v8) :=
  only_set9 (only_set9 (only_set9 (only_set9 (only_set9 (only_set9 (only_set9 (only_set9 (only_set9 (Only.refl (fun k => k = B) w) rfl 0 v0) rfl 1 v1) rfl 2 v2) rfl 3 v3) rfl 4 v4) rfl 5 v5) rfl 6 v6) rfl 7 v7) rfl 8 v8
theorem Bx.cells9 (h : Bx t w B #[a0, a1, a2, a3, a4, a5, a6, a7, a8]) :
    B < w.heap.size ∧ w.cell? ⟨B, 0, none⟩ = some a0 ∧ w.cell? ⟨B, 1, none⟩ = some a1 ∧ w.cell? ⟨B, 2, none⟩ = some a2 ∧ w.cell? ⟨B, 3, none⟩ = some a3 ∧ w.cell? ⟨B, 4, none⟩ = some a4 ∧ w.cell? ⟨B, 5, none⟩ = some a5 ∧ w.cell? ⟨B, 6, none⟩ = some a6 ∧ w.cell? ⟨B, 7, none⟩ = some a7 ∧ w.cell? ⟨B, 8, none⟩ = some a8 ∧ ∀ j, w.frozen? ⟨B, j, none⟩ = false :=
  ⟨h.lt, h.cell 0 _ rfl, h.cell 1 _ rfl, h.cell 2 _ rfl, h.cell 3 _ rfl, h.cell 4 _ rfl, h.cell 5 _ rfl, h.cell 6 _ rfl, h.cell 7 _ rfl, h.cell 8 _ rfl, fun j => h.soft j⟩

end Go.Proofs.YthjpighlcalocaaGreatDoor
