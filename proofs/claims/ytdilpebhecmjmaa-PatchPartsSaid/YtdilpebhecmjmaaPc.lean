/-
  Pieces in memory.
-/
import Derived.Test.YtdilpebhecmjmaaIns
import Derived.Test.YtdilpebhecmjmaaDelMath
import Derived.Test.YtdilpebhecmjmaaTool
namespace Go.Proofs.Ytdilpebhecmjmaa
open Go.RowKit
set_option linter.unusedVariables false
set_option linter.unusedSimpArgs false

/-- a piece with the address of its bytes -/
structure Pv where
  p : Pc
  A : Option Addr
  n : Nat
  c : Nat
def pcS : Shape Pv := { cells := fun x => [.bool x.p.copy, .int .i64 x.p.from_, .int .i64 x.p.len, .slice x.A x.n x.c], size := 4, len := fun _ => rfl, pos := by decide, one := by intro x u hu; simp at hu; rcases hu with rfl | rfl | rfl | rfl <;> rfl }
theorem pcInfo : (Try.prog.info? 39).map (fun i => (i.zero, i.size, i.bytes)) = some (some (.agg #[.bool false, .int .i64 0, .int .i64 0, .slice none 0 0]), pcS.size, 48) := by kernel_rfl
/-- the bytes of pieces lie where they say -/
def PIn (w : World) (l : List Pv) : Prop := ∀ x ∈ l, Ls byS w x.A x.p.data ∧ x.p.data.length = x.n ∧ x.n ≤ 140737488351232
theorem PIn.below {w w' : World} {l : List Pv} (h : PIn w l) (hb : Below w.heap.size w w') : PIn w' l := fun x hx => ⟨(h x hx).1.below hb, (h x hx).2⟩
/-- numbers of 64 bits -/
def PNum (l : List Pv) : Prop := ∀ x ∈ l, i64in x.p.from_ ∧ i64in x.p.len

theorem ls_add {w : World} {A : Option Addr} {l : List Int} (h : Ls byS w A l) (m : Nat) : Ls byS w (A.map fun x => x.add m) (l.drop m) := by
  rcases l with _ | ⟨x, r⟩
  · rw [List.drop_nil]; exact Ls.nil _ _
  · obtain ⟨b, o, rfl, -, -⟩ := h.at 0 x rfl
    show Ls byS w (some (Addr.add ⟨b, o, .none⟩ m)) _
    rw [addr_add]; exact h.drop1 rfl m
/-- a part of bytes, as the cut leaves its address -/
theorem ls_cut {w : World} {A : Option Addr} {l : List Int} (h : Ls byS w A l) (f k c : Nat) (hc : l.length ≤ c) : Ls byS w (if c = f then A else A.map fun x => x.add (f * 1)) ((l.drop f).take k) := by
  split
  · rename_i e
    rw [List.drop_eq_nil_of_le (by omega), List.take_nil]; exact Ls.nil _ _
  · rw [Nat.mul_one]; exact (ls_add h f).take k

end Go.Proofs.Ytdilpebhecmjmaa
