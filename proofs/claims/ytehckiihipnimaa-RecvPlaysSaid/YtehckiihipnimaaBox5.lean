/-
  A struct of five in a block of its own: a store of all of it. Nothing of the program.
-/
import Derived.Test.YtehckiihipnimaaOnly
namespace Go.Proofs.Ytehckiihipnimaa
open Go.RowKit
set_option linter.unusedVariables false

def put5 (w : World) (B : Nat) (v0 v1 v2 v3 v4 : Value) : World :=
  ((((w.setCell ⟨B, 0, none⟩ v0).setCell ⟨B, 1, none⟩ v1).setCell ⟨B, 2, none⟩ v2).setCell ⟨B, 3, none⟩ v3).setCell ⟨B, 4, none⟩ v4
theorem Bx.put5 {t : TypeId} {w : World} {B : Nat} {a0 a1 a2 a3 a4 : Value} (h : Bx t w B #[a0, a1, a2, a3, a4]) (v0 v1 v2 v3 v4 : Value) : Bx t (put5 w B v0 v1 v2 v3 v4) B #[v0, v1, v2, v3, v4] := by
  have h0 : Bx t (w.setCell ⟨B, 0, none⟩ v0) B #[v0, a1, a2, a3, a4] := h.set 0 v0
  have h1 : Bx t ((w.setCell ⟨B, 0, none⟩ v0).setCell ⟨B, 1, none⟩ v1) B #[v0, v1, a2, a3, a4] := h0.set 1 v1
  have h2 := h1.set 2 v2
  have h2 : Bx t _ B #[v0, v1, v2, a3, a4] := h2
  have h3 := h2.set 3 v3
  have h3 : Bx t _ B #[v0, v1, v2, v3, a4] := h3
  have h4 := h3.set 4 v4
  exact h4
theorem only_set5 {S : Nat → Prop} {w0 w : World} (h : Only S w0 w) {B : Nat} (hB : S B) (j : Nat) (u : Value) : Only S w0 (w.setCell ⟨B, j, none⟩ u) := h.setCell (.inl hB) u
theorem only_put5 (w : World) (B : Nat) (v0 v1 v2 v3 v4 : Value) : Only (fun k => k = B) w (put5 w B v0 v1 v2 v3 v4) :=
  only_set5 (only_set5 (only_set5 (only_set5 (only_set5 (Only.refl (fun k => k = B) w) rfl 0 v0) rfl 1 v1) rfl 2 v2) rfl 3 v3) rfl 4 v4

end Go.Proofs.Ytehckiihipnimaa
