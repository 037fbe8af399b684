/-
  Lists of numbers: their shape. Nothing of the program but the numbers of its types.
-/
import Derived.Test.YtdilpebhecmjmaaBy
namespace Go.Proofs.Ytdilpebhecmjmaa
open Go.RowKit
set_option linter.unusedVariables false

def inS : Shape Int := { cells := fun z => [.int .i64 z], size := 1, len := fun _ => rfl, pos := by decide, one := by intro x u hu; simp at hu; subst hu; rfl }
def i64in (a : Int) : Prop := -9223372036854775808 ≤ a ∧ a ≤ 9223372036854775807
theorem inInfo : (Try.prog.info? 3).map (fun i => (i.zero, i.size, i.bytes)) = some (some (.int .i64 0), inS.size, 8) := by kernel_rfl

end Go.Proofs.Ytdilpebhecmjmaa
