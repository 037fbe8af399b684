/-
  A struct of seven in a block of its own: a store of all of it. Nothing of the program.
-/
import Derived.Test.YthjpighlcalocaaGreatDoorOnly
namespace Go.Proofs.YthjpighlcalocaaGreatDoor
open Go.RowKit
set_option linter.unusedVariables false

def put7 (w : World) (B : Nat) (v0 v1 v2 v3 v4 v5 v6 : Value) : World :=
  ((((((w.setCell ⟨B, 0, none⟩ v0).setCell ⟨B, 1, none⟩ v1).setCell ⟨B, 2, none⟩ v2).setCell ⟨B, 3, none⟩ v3).setCell ⟨B, 4, none⟩ v4).setCell ⟨B, 5, none⟩ v5).setCell ⟨B, 6, none⟩ v6
theorem Bx.put7 {t : TypeId} {w : World} {B : Nat} {a0 a1 a2 a3 a4 a5 a6 : Value} (h : Bx t w B #[a0, a1, a2, a3, a4, a5, a6]) (v0 v1 v2 v3 v4 v5 v6 : Value) : Bx t (put7 w B v0 v1 v2 v3 v4 v5 v6) B #[v0, v1, v2, v3, v4, v5, v6] := by
  have h0 : Bx t (w.setCell ⟨B, 0, none⟩ v0) B #[v0, a1, a2, a3, a4, a5, a6] := h.set 0 v0
  have h1 : Bx t ((w.setCell ⟨B, 0, none⟩ v0).setCell ⟨B, 1, none⟩ v1) B #[v0, v1, a2, a3, a4, a5, a6] := h0.set 1 v1
  have h2 := h1.set 2 v2
  have h2 : Bx t _ B #[v0, v1, v2, a3, a4, a5, a6] := h2
  have h3 := h2.set 3 v3
  have h3 : Bx t _ B #[v0, v1, v2, v3, a4, a5, a6] := h3
  have h4 := h3.set 4 v4
  have h4 : Bx t _ B #[v0, v1, v2, v3, v4, a5, a6] := h4
  have h5 := h4.set 5 v5
  have h5 : Bx t _ B #[v0, v1, v2, v3, v4, v5, a6] := h5
  have h6 := h5.set 6 v6
  exact h6
theorem only_set' (w : World) (B j : Nat) (u : Value) : Only (fun k => k = B) w (w.setCell ⟨B, j, none⟩ u) := (Only.refl (fun k => k = B) w).setCell (.inl rfl) u
theorem Only.set' {S : Nat → Prop} {w0 w : World} (h : Only S w0 w) {B : Nat} (hB : S B) (j : Nat) (u : Value) : Only S w0 (w.setCell ⟨B, j, none⟩ u) := h.setCell (.inl hB) u
theorem only_put7 (w : World) (B : Nat) (v0 v1 v2 v3 v4 v5 v6 : Value) : Only (fun k => k = B) w (put7 w B v0 v1 v2 v3 v4 v5 v6) :=
  (((((((Only.refl (fun k => k = B) w).set' rfl 0 v0).set' rfl 1 v1).set' rfl 2 v2).set' rfl 3 v3).set' rfl 4 v4).set' rfl 5 v5).set' rfl 6 v6

end Go.Proofs.YthjpighlcalocaaGreatDoor
