/-
  A struct of six in a block of its own: a store of all of it. Nothing of the program.
-/
import Derived.Test.YtehckiihipnimaaOnly
namespace Go.Proofs.Ytehckiihipnimaa
open Go.RowKit
set_option linter.unusedVariables false

def put6 (w : World) (B : Nat) (v0 v1 v2 v3 v4 v5 : Value) : World :=
  (((((w.setCell ⟨B, 0, none⟩ v0).setCell ⟨B, 1, none⟩ v1).setCell ⟨B, 2, none⟩ v2).setCell ⟨B, 3, none⟩ v3).setCell ⟨B, 4, none⟩ v4).setCell ⟨B, 5, none⟩ v5
theorem Bx.put6 {t : TypeId} {w : World} {B : Nat} {a0 a1 a2 a3 a4 a5 : Value} (h : Bx t w B #[a0, a1, a2, a3, a4, a5]) (v0 v1 v2 v3 v4 v5 : Value) : Bx t (put6 w B v0 v1 v2 v3 v4 v5) B #[v0, v1, v2, v3, v4, v5] := by
  have h0 : Bx t (w.setCell ⟨B, 0, none⟩ v0) B #[v0, a1, a2, a3, a4, a5] := h.set 0 v0
  have h1 : Bx t ((w.setCell ⟨B, 0, none⟩ v0).setCell ⟨B, 1, none⟩ v1) B #[v0, v1, a2, a3, a4, a5] := h0.set 1 v1
  have h2 := h1.set 2 v2
  have h2 : Bx t _ B #[v0, v1, v2, a3, a4, a5] := h2
  have h3 := h2.set 3 v3
  have h3 : Bx t _ B #[v0, v1, v2, v3, a4, a5] := h3
  have h4 := h3.set 4 v4
  have h4 : Bx t _ B #[v0, v1, v2, v3, v4, a5] := h4
  have h5 := h4.set 5 v5
  exact h5
theorem Only.set6' {S : Nat → Prop} {w0 w : World} (h : Only S w0 w) {B : Nat} (hB : S B) (j : Nat) (u : Value) : Only S w0 (w.setCell ⟨B, j, none⟩ u) := h.setCell (.inl hB) u
theorem only_put6 (w : World) (B : Nat) (v0 v1 v2 v3 v4 v5 : Value) : Only (fun k => k = B) w (put6 w B v0 v1 v2 v3 v4 v5) :=
  ((((((Only.refl (fun k => k = B) w).set6' rfl 0 v0).set6' rfl 1 v1).set6' rfl 2 v2).set6' rfl 3 v3).set6' rfl 4 v4).set6' rfl 5 v5
theorem cell_put6 {w : World} {S : Nat} {p : Addr} (hk : p.block ≠ S) (v0 v1 v2 v3 v4 v5 : Value) :
    ((((((w.setCell ⟨S, 0, none⟩ v0).setCell ⟨S, 1, none⟩ v1).setCell ⟨S, 2, none⟩ v2).setCell ⟨S, 3, none⟩ v3).setCell ⟨S, 4, none⟩ v4).setCell ⟨S, 5, none⟩ v5).cell? p = w.cell? p := by
  rcases p with ⟨b, o, t⟩
  refine World.cell?_of_block ?_
  have hk' : b ≠ S := hk
  have h : ∀ (w : World) (j : Nat) (v : Value), (w.setCell ⟨S, j, none⟩ v).heap[b]? = w.heap[b]? := fun w j v => Below.heap_setCell _ _ _ _ hk'
  simp only [h]

end Go.Proofs.Ytehckiihipnimaa
