/-
  Shapes of bytes and bools. Nothing of the program but the numbers of its types.
-/
import Derived.Test.YtdilpebhecmjmaaWhole
import Derived.Test.YtdilpebhecmjmaaOnly
namespace Go.Proofs.Ytdilpebhecmjmaa
open Go.RowKit
set_option linter.unusedVariables false

def byS : Shape Int := { cells := fun z => [.int .u8 z], size := 1, len := fun _ => rfl, pos := by decide, one := by intro x u hu; simp at hu; subst hu; rfl }
def blS : Shape Bool := { cells := fun b => [.bool b], size := 1, len := fun _ => rfl, pos := by decide, one := by intro x u hu; simp at hu; subst hu; rfl }
theorem byInfo : (Try.prog.info? 5).map (fun i => (i.zero, i.size, i.bytes)) = some (some (.int .u8 0), byS.size, 1) := by kernel_rfl
theorem flat_by (l : List Int) : byS.flat l = l.map fun z => .int .u8 z := by
  induction l with
  | nil => rfl
  | cons x t ih => show byS.cells x ++ byS.flat t = _; rw [ih]; rfl

/-- an own row, cut off -/
theorem OwnL.cut {α : Type} {F : Shape α} {e : TypeId} {w : World} {base : Nat} {A : Option Addr} {n c : Nat} {zs : List α} (h : OwnL F e w base A n c zs) (m : Nat) (hm : m ≤ n) : OwnL F e w base A m c (zs.take m) := by
  refine ⟨by rw [List.length_take, h.1]; omega, ?_⟩
  refine ⟨by rw [F.flat_take, List.length_take, h.2.1, Nat.min_eq_left (Nat.mul_le_mul_right _ hm)], ?_⟩
  rcases h.2.2 with ⟨hv, hn⟩ | ⟨g, cap, cur, hv, hg, hh, hc, hcm, hcs, ht⟩
  · injection hv with hA _ hcc
    subst hA; subst hcc
    exact .inl ⟨by rw [show m = 0 by omega], by omega⟩
  · injection hv with hA _ hcc
    subst hA; subst hcc
    refine .inr ⟨g, _, cur, rfl, hg, hh, by omega, hcm, hcs, ?_⟩
    rw [F.flat_take, ← ht, List.take_take, Nat.min_eq_left (Nat.mul_le_mul_right _ hm)]

theorem OwnL.cap {α : Type} {F : Shape α} {e : TypeId} {w : World} {base : Nat} {A : Option Addr} {n c : Nat} {l : List α} (h : OwnL F e w base A n c l) : n ≤ c := by
  have hp := F.pos
  rcases h.2.2 with ⟨hv, hn⟩ | ⟨g, cap, cur, hv, hg, hh, hx⟩
  · injection hv with hA h1 hcc
    omega
  · injection hv with hA _ hcc
    omega
theorem OwnL.addr {α : Type} {F : Shape α} {e : TypeId} {w : World} {base : Nat} {A : Option Addr} {n c : Nat} {l : List α} (h : OwnL F e w base A n c l) : (A = none ∧ n = 0 ∧ c = 0) ∨ ∃ g, A = some ⟨g, 0, none⟩ ∧ g < w.heap.size := by
  rcases h.2.2 with ⟨hv, hn⟩ | ⟨g, cap, cur, hv, hg, hh, hx⟩
  · injection hv with hA h1 hcc
    exact .inl ⟨hA, by omega, by omega⟩
  · have := (h.lt g (by rw [hv]; rfl)).2
    injection hv with hA _ hcc
    exact .inr ⟨g, hA, this⟩
theorem cell_alloc1 {w : World} {o : Obj} {p : Addr} {v : Value} (h : w.cell? p = some v) : (w.alloc o).cell? p = some v :=
  (World.cell?_alloc_lt _ _ _ (World.block_lt_of_cell? w p h)).trans h
theorem cell_drew1 {w : World} {p : Addr} {v : Value} (h : w.cell? p = some v) : w.drew.cell? p = some v := h
theorem flat_drop {α : Type} {F : Shape α} (h1 : F.size = 1) : ∀ (l : List α) (k : Nat), F.flat (l.drop k) = (F.flat l).drop k
  | l, 0 => rfl
  | [], k + 1 => by simp [Shape.flat]
  | x :: t, k + 1 => by
    obtain ⟨u, hu⟩ : ∃ u, F.cells x = [u] := List.length_eq_one_iff.1 (by rw [F.len, h1])
    show F.flat (t.drop k) = (F.cells x ++ F.flat t).drop (k + 1)
    rw [flat_drop h1 t k, hu]; rfl
theorem Ls.drop1 {α : Type} {F : Shape α} {w : World} {b o : Nat} {l : List α} (h : Ls F w (some ⟨b, o, none⟩) l) (h1 : F.size = 1) (k : Nat) : Ls F w (some ⟨b, o + k, none⟩) (l.drop k) := by
  unfold Ls
  rw [flat_drop h1]
  rcases h with h | ⟨b', o', hA, hlt, hc⟩
  · left; rw [h]; simp
  · injection hA with hA
    injection hA with e1 e2
    subst e1; subst e2
    refine .inr ⟨b, o + k, rfl, hlt, fun j u hu => ?_⟩
    rw [List.getElem?_drop] at hu
    have := hc (k + j) u hu
    rw [← Nat.add_assoc] at this
    exact this


end Go.Proofs.Ytdilpebhecmjmaa
