/-
  Shapes of bytes, bools and ranges. Nothing of the program but the numbers of its types.
-/
import Derived.Test.YtehckiihipnimaaWhole
import Derived.Test.YtehckiihipnimaaHoleMath
namespace Go.Proofs.Ytehckiihipnimaa
open Go.RowKit
set_option linter.unusedVariables false

def byS : Shape Int := { cells := fun z => [.int .u8 z], size := 1, len := fun _ => rfl, pos := by decide, one := by intro x u hu; simp at hu; subst hu; rfl }
def blS : Shape Bool := { cells := fun b => [.bool b], size := 1, len := fun _ => rfl, pos := by decide, one := by intro x u hu; simp at hu; subst hu; rfl }
def rgS : Shape Rg := { cells := fun x => [.int .i64 x.1, .int .i64 x.2], size := 2, len := fun _ => rfl, pos := by decide, one := by intro x u hu; simp at hu; rcases hu with rfl | rfl <;> rfl }
theorem byInfo : (Try.prog.info? 5).map (fun i => (i.zero, i.size, i.bytes)) = some (some (.int .u8 0), byS.size, 1) := by kernel_rfl
theorem rgSInfo : (Try.prog.info? 44).map (fun i => (i.zero, i.size, i.bytes)) = some (some (.agg #[.int .i64 0, .int .i64 0]), rgS.size, 16) := by kernel_rfl

end Go.Proofs.Ytehckiihipnimaa
