/-
  No cell of these rows narrows 'for every input' (looked for: loops, veiled, ifaces, maps, wideKeys, modest, calm, conditions, laid).
  DERIVED. THE GIVEN ROWS OF THIS SEAT. 9 by the template 'for every input the law returns true; each argument reads behind the call as it read before'; 0 by the template 'total and deterministic' (their statements: YtkipjdohobklhaaTotals.lean).
  GIVEN WITH THE SEED: the statements are not yours to turn. If you find one false, say at which input.
  Laid BY PROGRAM, IN A SANDBOX (cutbox-rows.mjs): the forced cells as the released guide's own fill.sh prints them over the translation 3195e827dac12f2c… (all of the seat's roots in one cut). By AI agents, Wed Nov 11 2026. No macro, syntax, notation, axiom, sorry.
-/
import Derived.Test.YtkipjdohobklhaaChecked
import GoSem.Claim
import GoSem.ClaimJoined
import GoSem.ClaimMapViews
import Derived.JoinedTies
import Derived.KernelRfl
namespace Go.Proofs.Ytkipjdohobklhaa
/- THE CELL 'sum', in the pinned program and in every row, IS THE sha256 OF THE DUMP (.gsa) THAT YtkipjdohobklhaaProg.lean LOADS. Nothing in Lean hashes anything: it is a label: what it is worth is what the hold of that sum in a sandbox is worth. -/
noncomputable def Try.pinned : Pinned := { name := "ytkipjdohobklhaa", sum := "3195e827dac12f2c778668f06a67a279f1ca38cd2ce990ae726bc572af57737c", checked := Try.checked }
namespace Rows
def none {H : Type} : Left H := { results := [], args := [] }

/-- 'packthreadlaw.InetFolds': WHATEVER THE INPUT: true; the input reads as it did. -/
def inetFoldsSpec : ChangeSpec := { name := "inetFolds", fn := fun _ => fun
  | [d] => { results := [.lit (.bool true)], args := [d] }
  | _ => none }
def inetFoldsRow : OpenClaim := { program := "ytkipjdohobklhaa", sum := "3195e827dac12f2c778668f06a67a279f1ca38cd2ce990ae726bc572af57737c", func := "packthread/packthreadlaw.InetFolds", spec := "inetFolds", apart := false }
def InetFoldsSaid : Prop := inetFoldsRow.holds Try.pinned (OpenSpec.ofChange inetFoldsSpec)

/-- ITS FALSE NEIGHBOUR: 'it returns false'. Refute it at one input. -/
def inetFoldsWrong : ChangeSpec := { name := "inetFolds", fn := fun _ => fun
  | [d] => { results := [.lit (.bool false)], args := [d] }
  | _ => none }
def InetFoldsWrongFalsely : Prop := inetFoldsRow.holds Try.pinned (OpenSpec.ofChange inetFoldsWrong)

/-- 'packthreadlaw.InetSums': WHATEVER THE INPUT: true; the input reads as it did. -/
def inetSumsSpec : ChangeSpec := { name := "inetSums", fn := fun _ => fun
  | [d] => { results := [.lit (.bool true)], args := [d] }
  | _ => none }
def inetSumsRow : OpenClaim := { program := "ytkipjdohobklhaa", sum := "3195e827dac12f2c778668f06a67a279f1ca38cd2ce990ae726bc572af57737c", func := "packthread/packthreadlaw.InetSums", spec := "inetSums", apart := false }
def InetSumsSaid : Prop := inetSumsRow.holds Try.pinned (OpenSpec.ofChange inetSumsSpec)

/-- ITS FALSE NEIGHBOUR: 'it returns false'. Refute it at one input. -/
def inetSumsWrong : ChangeSpec := { name := "inetSums", fn := fun _ => fun
  | [d] => { results := [.lit (.bool false)], args := [d] }
  | _ => none }
def InetSumsWrongFalsely : Prop := inetSumsRow.holds Try.pinned (OpenSpec.ofChange inetSumsWrong)

/-- 'packthreadlaw.InetJoins': WHATEVER THE INPUT: true; the input reads as it did. -/
def inetJoinsSpec : ChangeSpec := { name := "inetJoins", fn := fun _ => fun
  | [d1, d2, d3] => { results := [.lit (.bool true)], args := [d1, d2, d3] }
  | _ => none }
def inetJoinsRow : OpenClaim := { program := "ytkipjdohobklhaa", sum := "3195e827dac12f2c778668f06a67a279f1ca38cd2ce990ae726bc572af57737c", func := "packthread/packthreadlaw.InetJoins", spec := "inetJoins", apart := false }
def InetJoinsSaid : Prop := inetJoinsRow.holds Try.pinned (OpenSpec.ofChange inetJoinsSpec)

/-- ITS FALSE NEIGHBOUR: 'it returns false'. Refute it at one input. -/
def inetJoinsWrong : ChangeSpec := { name := "inetJoins", fn := fun _ => fun
  | [d1, d2, d3] => { results := [.lit (.bool false)], args := [d1, d2, d3] }
  | _ => none }
def InetJoinsWrongFalsely : Prop := inetJoinsRow.holds Try.pinned (OpenSpec.ofChange inetJoinsWrong)

/-- 'packthreadlaw.InetUpdates': WHATEVER THE INPUT: true; the input reads as it did. -/
def inetUpdatesSpec : ChangeSpec := { name := "inetUpdates", fn := fun _ => fun
  | [d1, d2, d3] => { results := [.lit (.bool true)], args := [d1, d2, d3] }
  | _ => none }
def inetUpdatesRow : OpenClaim := { program := "ytkipjdohobklhaa", sum := "3195e827dac12f2c778668f06a67a279f1ca38cd2ce990ae726bc572af57737c", func := "packthread/packthreadlaw.InetUpdates", spec := "inetUpdates", apart := false }
def InetUpdatesSaid : Prop := inetUpdatesRow.holds Try.pinned (OpenSpec.ofChange inetUpdatesSpec)

/-- ITS FALSE NEIGHBOUR: 'it returns false'. Refute it at one input. -/
def inetUpdatesWrong : ChangeSpec := { name := "inetUpdates", fn := fun _ => fun
  | [d1, d2, d3] => { results := [.lit (.bool false)], args := [d1, d2, d3] }
  | _ => none }
def InetUpdatesWrongFalsely : Prop := inetUpdatesRow.holds Try.pinned (OpenSpec.ofChange inetUpdatesWrong)

/-- 'packthreadkeep.InetParts': WHATEVER THE INPUT: true; the input reads as it did. -/
def inetPartsSpec : ChangeSpec := { name := "inetParts", fn := fun _ => fun
  | [d1, d2] => { results := [.lit (.bool true)], args := [d1, d2] }
  | _ => none }
def inetPartsRow : OpenClaim := { program := "ytkipjdohobklhaa", sum := "3195e827dac12f2c778668f06a67a279f1ca38cd2ce990ae726bc572af57737c", func := "packthread/packthreadkeep.InetParts", spec := "inetParts", apart := false }
def InetPartsSaid : Prop := inetPartsRow.holds Try.pinned (OpenSpec.ofChange inetPartsSpec)

/-- ITS FALSE NEIGHBOUR: 'it returns false'. Refute it at one input. -/
def inetPartsWrong : ChangeSpec := { name := "inetParts", fn := fun _ => fun
  | [d1, d2] => { results := [.lit (.bool false)], args := [d1, d2] }
  | _ => none }
def InetPartsWrongFalsely : Prop := inetPartsRow.holds Try.pinned (OpenSpec.ofChange inetPartsWrong)

/-- 'packthreadkeep.InetSealed': WHATEVER THE INPUT: true; the input reads as it did. -/
def inetSealedSpec : ChangeSpec := { name := "inetSealed", fn := fun _ => fun
  | [d] => { results := [.lit (.bool true)], args := [d] }
  | _ => none }
def inetSealedRow : OpenClaim := { program := "ytkipjdohobklhaa", sum := "3195e827dac12f2c778668f06a67a279f1ca38cd2ce990ae726bc572af57737c", func := "packthread/packthreadkeep.InetSealed", spec := "inetSealed", apart := false }
def InetSealedSaid : Prop := inetSealedRow.holds Try.pinned (OpenSpec.ofChange inetSealedSpec)

/-- ITS FALSE NEIGHBOUR: 'it returns false'. Refute it at one input. -/
def inetSealedWrong : ChangeSpec := { name := "inetSealed", fn := fun _ => fun
  | [d] => { results := [.lit (.bool false)], args := [d] }
  | _ => none }
def InetSealedWrongFalsely : Prop := inetSealedRow.holds Try.pinned (OpenSpec.ofChange inetSealedWrong)

/-- 'packthreadkeep.InetUpdated': WHATEVER THE INPUT: true; the input reads as it did. -/
def inetUpdatedSpec : ChangeSpec := { name := "inetUpdated", fn := fun _ => fun
  | [d1, d2, d3] => { results := [.lit (.bool true)], args := [d1, d2, d3] }
  | _ => none }
def inetUpdatedRow : OpenClaim := { program := "ytkipjdohobklhaa", sum := "3195e827dac12f2c778668f06a67a279f1ca38cd2ce990ae726bc572af57737c", func := "packthread/packthreadkeep.InetUpdated", spec := "inetUpdated", apart := false }
def InetUpdatedSaid : Prop := inetUpdatedRow.holds Try.pinned (OpenSpec.ofChange inetUpdatedSpec)

/-- ITS FALSE NEIGHBOUR: 'it returns false'. Refute it at one input. -/
def inetUpdatedWrong : ChangeSpec := { name := "inetUpdated", fn := fun _ => fun
  | [d1, d2, d3] => { results := [.lit (.bool false)], args := [d1, d2, d3] }
  | _ => none }
def InetUpdatedWrongFalsely : Prop := inetUpdatedRow.holds Try.pinned (OpenSpec.ofChange inetUpdatedWrong)

/-- 'packthreadkeep.InetTurned': WHATEVER THE INPUT: true; the input reads as it did. -/
def inetTurnedSpec : ChangeSpec := { name := "inetTurned", fn := fun _ => fun
  | [d1, d2, d3, d4] => { results := [.lit (.bool true)], args := [d1, d2, d3, d4] }
  | _ => none }
def inetTurnedRow : OpenClaim := { program := "ytkipjdohobklhaa", sum := "3195e827dac12f2c778668f06a67a279f1ca38cd2ce990ae726bc572af57737c", func := "packthread/packthreadkeep.InetTurned", spec := "inetTurned", apart := false }
def InetTurnedSaid : Prop := inetTurnedRow.holds Try.pinned (OpenSpec.ofChange inetTurnedSpec)

/-- ITS FALSE NEIGHBOUR: 'it returns false'. Refute it at one input. -/
def inetTurnedWrong : ChangeSpec := { name := "inetTurned", fn := fun _ => fun
  | [d1, d2, d3, d4] => { results := [.lit (.bool false)], args := [d1, d2, d3, d4] }
  | _ => none }
def InetTurnedWrongFalsely : Prop := inetTurnedRow.holds Try.pinned (OpenSpec.ofChange inetTurnedWrong)

/-- 'packthreadkeep.InetSwap': WHATEVER THE INPUT: true; the input reads as it did. -/
def inetSwapSpec : ChangeSpec := { name := "inetSwap", fn := fun _ => fun
  | [d] => { results := [.lit (.bool true)], args := [d] }
  | _ => none }
def inetSwapRow : OpenClaim := { program := "ytkipjdohobklhaa", sum := "3195e827dac12f2c778668f06a67a279f1ca38cd2ce990ae726bc572af57737c", func := "packthread/packthreadkeep.InetSwap", spec := "inetSwap", apart := false }
def InetSwapSaid : Prop := inetSwapRow.holds Try.pinned (OpenSpec.ofChange inetSwapSpec)

/-- ITS FALSE NEIGHBOUR: 'it returns false'. Refute it at one input. -/
def inetSwapWrong : ChangeSpec := { name := "inetSwap", fn := fun _ => fun
  | [d] => { results := [.lit (.bool false)], args := [d] }
  | _ => none }
def InetSwapWrongFalsely : Prop := inetSwapRow.holds Try.pinned (OpenSpec.ofChange inetSwapWrong)

/- THE SECOND FORM. 'bulk': how many values and letters a reading holds, each counted each time it is reached (what is shared counts as often as it is met; a slice's spare places count too). A statement '..UptoSaid' is the law's where the arguments, and the package variables that the reading takes, are together of bulk at most 1048576: NARROWER than '..Said'. Prove '..Said' where nothing that the law and all that it calls make is longer than what came in: it says more and counts as full. Else prove '..UptoSaid'. A law counts once. -/
mutual
def uptoBulk {H : Type} : DataW H → Nat
  | .lit (.string bytes) => bytes.length + 1
  | .lit _ => 1
  | .nil => 1
  | .ptr d => uptoBulk d + 1
  | .slice elems spare => uptoBulkAll elems + uptoBulkAll spare + 1
  | .agg parts => uptoBulkAll parts + 1
  | .iface _ d => uptoBulk d + 1
  | .map entries => uptoBulkEntries entries + 1
  | .held _ => 1
def uptoBulkAll {H : Type} : List (DataW H) → Nat
  | [] => 0
  | d :: r => uptoBulk d + uptoBulkAll r
def uptoBulkEntries {H : Type} : List (Lit × DataW H) → Nat
  | [] => 0
  | x :: r => uptoBulkEntry x + uptoBulkEntries r
def uptoBulkEntry {H : Type} : Lit × DataW H → Nat
  | (.string bytes, d) => bytes.length + uptoBulk d + 1
  | (_, d) => uptoBulk d + 1
 end
def uptoSmall : (H : Type) → List (DataW H) → Bool := fun _ ds => decide (uptoBulkAll ds ≤ 1048576)
def OpenSpec.upto (s : _root_.Go.ChangeSpec) : _root_.Go.OpenSpec := { _root_.Go.OpenSpec.ofChange s with cond := some uptoSmall }

/-- 'packthreadlaw.InetFolds', WHERE WHAT IT READS IS OF BULK AT MOST 1048576: true; the input reads as it did. -/
def inetFoldsUptoRow : OpenClaim := { program := "ytkipjdohobklhaa", sum := "3195e827dac12f2c778668f06a67a279f1ca38cd2ce990ae726bc572af57737c", func := "packthread/packthreadlaw.InetFolds", spec := "inetFolds", apart := false, narrowed := true }
def InetFoldsUptoSaid : Prop := inetFoldsUptoRow.holds Try.pinned (OpenSpec.upto inetFoldsSpec)

/-- 'packthreadlaw.InetSums', WHERE WHAT IT READS IS OF BULK AT MOST 1048576: true; the input reads as it did. -/
def inetSumsUptoRow : OpenClaim := { program := "ytkipjdohobklhaa", sum := "3195e827dac12f2c778668f06a67a279f1ca38cd2ce990ae726bc572af57737c", func := "packthread/packthreadlaw.InetSums", spec := "inetSums", apart := false, narrowed := true }
def InetSumsUptoSaid : Prop := inetSumsUptoRow.holds Try.pinned (OpenSpec.upto inetSumsSpec)

/-- 'packthreadlaw.InetJoins', WHERE WHAT IT READS IS OF BULK AT MOST 1048576: true; the input reads as it did. -/
def inetJoinsUptoRow : OpenClaim := { program := "ytkipjdohobklhaa", sum := "3195e827dac12f2c778668f06a67a279f1ca38cd2ce990ae726bc572af57737c", func := "packthread/packthreadlaw.InetJoins", spec := "inetJoins", apart := false, narrowed := true }
def InetJoinsUptoSaid : Prop := inetJoinsUptoRow.holds Try.pinned (OpenSpec.upto inetJoinsSpec)

/-- 'packthreadlaw.InetUpdates', WHERE WHAT IT READS IS OF BULK AT MOST 1048576: true; the input reads as it did. -/
def inetUpdatesUptoRow : OpenClaim := { program := "ytkipjdohobklhaa", sum := "3195e827dac12f2c778668f06a67a279f1ca38cd2ce990ae726bc572af57737c", func := "packthread/packthreadlaw.InetUpdates", spec := "inetUpdates", apart := false, narrowed := true }
def InetUpdatesUptoSaid : Prop := inetUpdatesUptoRow.holds Try.pinned (OpenSpec.upto inetUpdatesSpec)

/-- 'packthreadkeep.InetParts', WHERE WHAT IT READS IS OF BULK AT MOST 1048576: true; the input reads as it did. -/
def inetPartsUptoRow : OpenClaim := { program := "ytkipjdohobklhaa", sum := "3195e827dac12f2c778668f06a67a279f1ca38cd2ce990ae726bc572af57737c", func := "packthread/packthreadkeep.InetParts", spec := "inetParts", apart := false, narrowed := true }
def InetPartsUptoSaid : Prop := inetPartsUptoRow.holds Try.pinned (OpenSpec.upto inetPartsSpec)

/-- 'packthreadkeep.InetSealed', WHERE WHAT IT READS IS OF BULK AT MOST 1048576: true; the input reads as it did. -/
def inetSealedUptoRow : OpenClaim := { program := "ytkipjdohobklhaa", sum := "3195e827dac12f2c778668f06a67a279f1ca38cd2ce990ae726bc572af57737c", func := "packthread/packthreadkeep.InetSealed", spec := "inetSealed", apart := false, narrowed := true }
def InetSealedUptoSaid : Prop := inetSealedUptoRow.holds Try.pinned (OpenSpec.upto inetSealedSpec)

/-- 'packthreadkeep.InetUpdated', WHERE WHAT IT READS IS OF BULK AT MOST 1048576: true; the input reads as it did. -/
def inetUpdatedUptoRow : OpenClaim := { program := "ytkipjdohobklhaa", sum := "3195e827dac12f2c778668f06a67a279f1ca38cd2ce990ae726bc572af57737c", func := "packthread/packthreadkeep.InetUpdated", spec := "inetUpdated", apart := false, narrowed := true }
def InetUpdatedUptoSaid : Prop := inetUpdatedUptoRow.holds Try.pinned (OpenSpec.upto inetUpdatedSpec)

/-- 'packthreadkeep.InetTurned', WHERE WHAT IT READS IS OF BULK AT MOST 1048576: true; the input reads as it did. -/
def inetTurnedUptoRow : OpenClaim := { program := "ytkipjdohobklhaa", sum := "3195e827dac12f2c778668f06a67a279f1ca38cd2ce990ae726bc572af57737c", func := "packthread/packthreadkeep.InetTurned", spec := "inetTurned", apart := false, narrowed := true }
def InetTurnedUptoSaid : Prop := inetTurnedUptoRow.holds Try.pinned (OpenSpec.upto inetTurnedSpec)

/-- 'packthreadkeep.InetSwap', WHERE WHAT IT READS IS OF BULK AT MOST 1048576: true; the input reads as it did. -/
def inetSwapUptoRow : OpenClaim := { program := "ytkipjdohobklhaa", sum := "3195e827dac12f2c778668f06a67a279f1ca38cd2ce990ae726bc572af57737c", func := "packthread/packthreadkeep.InetSwap", spec := "inetSwap", apart := false, narrowed := true }
def InetSwapUptoSaid : Prop := inetSwapUptoRow.holds Try.pinned (OpenSpec.upto inetSwapSpec)

end Rows
end Go.Proofs.Ytkipjdohobklhaa
