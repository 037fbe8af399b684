/-
  Stores into a list of bytes of the call's own.
-/
import Derived.Test.YtkipjdohobklhaaBytes
import Derived.WalkKit
import Derived.Handy
import Derived.Lib.Hide
import Derived.Laws.OwnMore
namespace Go.Proofs.Ytkipjdohobklhaa
open Go.RowKit
set_option linter.unusedVariables false

/-- Where something is owned there is a block. -/
theorem OwnB.some_ {w : World} {base : Nat} {A : Option Addr} {n c : Nat} {zs : List Int} (h : OwnB w base A n c zs) (hn : 0 < n) : ∃ g, A = some ⟨g, 0, none⟩ ∧ base ≤ g ∧ g < w.heap.size := by
  rcases h.2.2.2 with ⟨_, h0⟩ | ⟨g, cap, cur, hv, hg, _⟩
  · omega
  · injection hv with hA _ _
    exact ⟨g, hA, hg, (h.2.2.lt g (by rw [hA]; rfl)).2⟩
theorem OwnB.cell {w : World} {base g : Nat} {n c : Nat} {zs : List Int} (h : OwnB w base (some ⟨g, 0, none⟩) n c zs) (j : Nat) (hj : j < n) : w.cell? ⟨g, j, none⟩ = some (.int .u8 (zs.getD j 0)) := by
  rw [h.2.2.cellAt j (by omega), List.getElem?_map, List.getElem?_eq_getElem (by rw [h.2.1]; exact hj)]
  simp [h.2.1, hj]
theorem OwnB.soft {w : World} {base g : Nat} {n c : Nat} {zs : List Int} (h : OwnB w base (some ⟨g, 0, none⟩) n c zs) (j : Nat) : w.frozen? ⟨g, j, none⟩ = false := h.2.2.frozenAt j
theorem OwnB.put {w : World} {base g : Nat} {n c : Nat} {zs : List Int} (h : OwnB w base (some ⟨g, 0, none⟩) n c zs) (j : Nat) (v : Int) (hv : 0 ≤ v ∧ v ≤ 255) :
    OwnB (w.setCell ⟨g, j, none⟩ (.int .u8 v)) base (some ⟨g, 0, none⟩) n c (zs.set j v) ∧ Below base w (w.setCell ⟨g, j, none⟩ (.int .u8 v)) := by
  obtain ⟨h1, h2⟩ := h.2.2.stored j (.int .u8 v)
  refine ⟨⟨?_, by rw [List.length_set]; exact h.2.1, by rw [List.map_set]; exact h1⟩, (Below.refl _ _).setCell (h.2.2.lt g rfl).1 _⟩
  intro z hz
  rcases List.mem_or_eq_of_mem_set hz with h3 | h3
  · exact h.1 z h3
  · rw [h3]; exact hv

end Go.Proofs.Ytkipjdohobklhaa
