/-
  The tactics that walks import, together. Nothing of the program.
-/
import Derived.WalkKit
import Derived.Handy
import Derived.Outline
import Derived.Below
import Derived.IntWalk
import Derived.OwnWalk
import Derived.BigRegion
import Derived.BigQuiet
import Derived.Lib.Hide
import Derived.Laws.NewBlocks
import Derived.Laws.Rows
import Derived.Deep.Cut
import Derived.Deep.CutBlock
import Derived.Deep.DeepCutAuto
import Derived.Deep.RegionLaw
import Derived.Deep.RegionHeld3
import Derived.Deep.QuietTactic
