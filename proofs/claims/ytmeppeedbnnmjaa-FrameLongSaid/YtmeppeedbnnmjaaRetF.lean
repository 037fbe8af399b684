/-
  What Feed answers.
-/
import Derived.Test.YtmeppeedbnnmjaaFrameMath
import Derived.Test.YtmeppeedbnnmjaaLists
namespace Go.Proofs.Ytmeppeedbnnmjaa
open Go.RowKit
set_option linter.unusedVariables false

/-- what Feed answers -/
def RetF (w : World) (r : Option (List (List Int) × List Int)) (e : Ending) (w' : World) : Prop :=
  Below w.heap.size w w' ∧ match r with
  | none => e = .returned (.tuple #[.slice none 0 0, .slice none 0 0, .int .i64 1])
  | some (fs, rest) => ∃ A c ls B d, e = .returned (.tuple #[.slice A fs.length c, .slice B rest.length d, .int .i64 0]) ∧ OwnL lvS 22 w' w.heap.size A fs.length c ls ∧ ls.map Lv.l = fs ∧
      LI w' (fun k => k < w.heap.size ∨ (Value.slice A fs.length c).ownBlock = some k) ls ∧ OwnL byS 5 w' w.heap.size B rest.length d rest


theorem at0 (zs : List Int) (k : Nat) (h : k < zs.length) : zs[k]? = some (zs.getD k 0) := by
  rw [List.getD_eq_getElem?_getD, List.getElem?_eq_getElem h]; rfl
/-- a byte's cell -/
theorem Ls.byte {w : World} {A : Option Addr} {zs : List Int} (hb : Ls byS w A zs) (k : Nat) (h : k < zs.length) : ∃ b o, A = some ⟨b, o, none⟩ ∧ b < w.heap.size ∧ w.cell? ⟨b, o + k, none⟩ = some (.int .u8 (zs.getD k 0)) := by
  obtain ⟨b', o', hA, hl, hc⟩ := hb.at k _ (at0 zs k h)
  have := hc 0 (.int .u8 (zs.getD k 0)) rfl
  exact ⟨b', o', hA, hl, by simpa [byS] using this⟩
theorem Ls.bytes {w : World} {b o : Nat} {zs : List Int} (hb : Ls byS w (some ⟨b, o, none⟩) zs) (k : Nat) (h : k < zs.length) : w.cell? ⟨b, o + k, none⟩ = some (.int .u8 (zs.getD k 0)) := by
  obtain ⟨b', o', hA, hl, hc⟩ := hb.byte k h
  injection hA with hA; injection hA with e1 e2
  subst e1; subst e2
  exact hc

end Go.Proofs.Ytmeppeedbnnmjaa
