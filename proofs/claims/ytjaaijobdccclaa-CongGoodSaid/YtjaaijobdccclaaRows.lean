/-
  No cell of these rows narrows 'for every input' (looked for: loops, veiled, ifaces, maps, wideKeys, modest, calm, conditions, laid).
  DERIVED. THE GIVEN ROWS OF THIS SEAT. 5 by the template 'for every input the law returns true; each argument reads behind the call as it read before'; 0 by the template 'total and deterministic' (their statements: YtjaaijobdccclaaTotals.lean).
  GIVEN WITH THE SEED: the statements are not yours to turn. If you find one false, say at which input.
  Laid BY PROGRAM, IN A SANDBOX (cutbox-rows.mjs): the forced cells as the released guide's own fill.sh prints them over the translation d60b4593ee9d9aaf… (all of the seat's roots in one cut). By AI agents, Wed Nov 11 2026. No macro, syntax, notation, axiom, sorry.
-/
import Derived.Test.YtjaaijobdccclaaChecked
import GoSem.Claim
import GoSem.ClaimJoined
import GoSem.ClaimMapViews
import Derived.JoinedTies
import Derived.KernelRfl
namespace Go.Proofs.Ytjaaijobdccclaa
/- THE CELL 'sum', in the pinned program and in every row, IS THE sha256 OF THE DUMP (.gsa) THAT YtjaaijobdccclaaProg.lean LOADS. Nothing in Lean hashes anything: it is a label: what it is worth is what the hold of that sum in a sandbox is worth. -/
noncomputable def Try.pinned : Pinned := { name := "ytjaaijobdccclaa", sum := "d60b4593ee9d9aaf92c5cdb506f79021d40ec26a9ea1093e9e2364a7f95c2397", checked := Try.checked }
namespace Rows
def none {H : Type} : Left H := { results := [], args := [] }

/-- 'packthreadlaw.CongPlays': WHATEVER THE INPUT: true; the input reads as it did. -/
def congPlaysSpec : ChangeSpec := { name := "congPlays", fn := fun _ => fun
  | [d] => { results := [.lit (.bool true)], args := [d] }
  | _ => none }
def congPlaysRow : OpenClaim := { program := "ytjaaijobdccclaa", sum := "d60b4593ee9d9aaf92c5cdb506f79021d40ec26a9ea1093e9e2364a7f95c2397", func := "packthread/packthreadlaw.CongPlays", spec := "congPlays", apart := false }
def CongPlaysSaid : Prop := congPlaysRow.holds Try.pinned (OpenSpec.ofChange congPlaysSpec)

/-- ITS FALSE NEIGHBOUR: 'it returns false'. Refute it at one input. -/
def congPlaysWrong : ChangeSpec := { name := "congPlays", fn := fun _ => fun
  | [d] => { results := [.lit (.bool false)], args := [d] }
  | _ => none }
def CongPlaysWrongFalsely : Prop := congPlaysRow.holds Try.pinned (OpenSpec.ofChange congPlaysWrong)

/-- 'packthreadkeep.CongGood': WHATEVER THE INPUT: true; the input reads as it did. -/
def congGoodSpec : ChangeSpec := { name := "congGood", fn := fun _ => fun
  | [d] => { results := [.lit (.bool true)], args := [d] }
  | _ => none }
def congGoodRow : OpenClaim := { program := "ytjaaijobdccclaa", sum := "d60b4593ee9d9aaf92c5cdb506f79021d40ec26a9ea1093e9e2364a7f95c2397", func := "packthread/packthreadkeep.CongGood", spec := "congGood", apart := false }
def CongGoodSaid : Prop := congGoodRow.holds Try.pinned (OpenSpec.ofChange congGoodSpec)

/-- ITS FALSE NEIGHBOUR: 'it returns false'. Refute it at one input. -/
def congGoodWrong : ChangeSpec := { name := "congGood", fn := fun _ => fun
  | [d] => { results := [.lit (.bool false)], args := [d] }
  | _ => none }
def CongGoodWrongFalsely : Prop := congGoodRow.holds Try.pinned (OpenSpec.ofChange congGoodWrong)

/-- 'packthreadkeep.CongParts': WHATEVER THE INPUT: true; the input reads as it did. -/
def congPartsSpec : ChangeSpec := { name := "congParts", fn := fun _ => fun
  | [d1, d2] => { results := [.lit (.bool true)], args := [d1, d2] }
  | _ => none }
def congPartsRow : OpenClaim := { program := "ytjaaijobdccclaa", sum := "d60b4593ee9d9aaf92c5cdb506f79021d40ec26a9ea1093e9e2364a7f95c2397", func := "packthread/packthreadkeep.CongParts", spec := "congParts", apart := false }
def CongPartsSaid : Prop := congPartsRow.holds Try.pinned (OpenSpec.ofChange congPartsSpec)

/-- ITS FALSE NEIGHBOUR: 'it returns false'. Refute it at one input. -/
def congPartsWrong : ChangeSpec := { name := "congParts", fn := fun _ => fun
  | [d1, d2] => { results := [.lit (.bool false)], args := [d1, d2] }
  | _ => none }
def CongPartsWrongFalsely : Prop := congPartsRow.holds Try.pinned (OpenSpec.ofChange congPartsWrong)

/-- 'packthreadkeep.CongSteps': WHATEVER THE INPUT: true; the input reads as it did. -/
def congStepsSpec : ChangeSpec := { name := "congSteps", fn := fun _ => fun
  | [d] => { results := [.lit (.bool true)], args := [d] }
  | _ => none }
def congStepsRow : OpenClaim := { program := "ytjaaijobdccclaa", sum := "d60b4593ee9d9aaf92c5cdb506f79021d40ec26a9ea1093e9e2364a7f95c2397", func := "packthread/packthreadkeep.CongSteps", spec := "congSteps", apart := false }
def CongStepsSaid : Prop := congStepsRow.holds Try.pinned (OpenSpec.ofChange congStepsSpec)

/-- ITS FALSE NEIGHBOUR: 'it returns false'. Refute it at one input. -/
def congStepsWrong : ChangeSpec := { name := "congSteps", fn := fun _ => fun
  | [d] => { results := [.lit (.bool false)], args := [d] }
  | _ => none }
def CongStepsWrongFalsely : Prop := congStepsRow.holds Try.pinned (OpenSpec.ofChange congStepsWrong)

/-- 'packthreadkeep.CongFair': WHATEVER THE INPUT: true; the input reads as it did. -/
def congFairSpec : ChangeSpec := { name := "congFair", fn := fun _ => fun
  | [d1, d2] => { results := [.lit (.bool true)], args := [d1, d2] }
  | _ => none }
def congFairRow : OpenClaim := { program := "ytjaaijobdccclaa", sum := "d60b4593ee9d9aaf92c5cdb506f79021d40ec26a9ea1093e9e2364a7f95c2397", func := "packthread/packthreadkeep.CongFair", spec := "congFair", unfollowed := true, recurses := true, apart := false }
def CongFairSaid : Prop := congFairRow.holds Try.pinned (OpenSpec.ofChange congFairSpec)

/-- ITS FALSE NEIGHBOUR: 'it returns false'. Refute it at one input. -/
def congFairWrong : ChangeSpec := { name := "congFair", fn := fun _ => fun
  | [d1, d2] => { results := [.lit (.bool false)], args := [d1, d2] }
  | _ => none }
def CongFairWrongFalsely : Prop := congFairRow.holds Try.pinned (OpenSpec.ofChange congFairWrong)

/- THE SECOND FORM. 'bulk': how many values and letters a reading holds, each counted each time it is reached (what is shared counts as often as it is met; a slice's spare places count too). A statement '..UptoSaid' is the law's where the arguments, and the package variables that the reading takes, are together of bulk at most 1048576: NARROWER than '..Said'. Prove '..Said' where nothing that the law and all that it calls make is longer than what came in: it says more and counts as full. Else prove '..UptoSaid'. A law counts once. -/
mutual
def uptoBulk {H : Type} : DataW H → Nat
  | .lit (.string bytes) => bytes.length + 1
  | .lit _ => 1
  | .nil => 1
  | .ptr d => uptoBulk d + 1
  | .slice elems spare => uptoBulkAll elems + uptoBulkAll spare + 1
  | .agg parts => uptoBulkAll parts + 1
  | .iface _ d => uptoBulk d + 1
  | .map entries => uptoBulkEntries entries + 1
  | .held _ => 1
def uptoBulkAll {H : Type} : List (DataW H) → Nat
  | [] => 0
  | d :: r => uptoBulk d + uptoBulkAll r
def uptoBulkEntries {H : Type} : List (Lit × DataW H) → Nat
  | [] => 0
  | x :: r => uptoBulkEntry x + uptoBulkEntries r
def uptoBulkEntry {H : Type} : Lit × DataW H → Nat
  | (.string bytes, d) => bytes.length + uptoBulk d + 1
  | (_, d) => uptoBulk d + 1
 end
def uptoSmall : (H : Type) → List (DataW H) → Bool := fun _ ds => decide (uptoBulkAll ds ≤ 1048576)
def OpenSpec.upto (s : _root_.Go.ChangeSpec) : _root_.Go.OpenSpec := { _root_.Go.OpenSpec.ofChange s with cond := some uptoSmall }

/-- 'packthreadlaw.CongPlays', WHERE WHAT IT READS IS OF BULK AT MOST 1048576: true; the input reads as it did. -/
def congPlaysUptoRow : OpenClaim := { program := "ytjaaijobdccclaa", sum := "d60b4593ee9d9aaf92c5cdb506f79021d40ec26a9ea1093e9e2364a7f95c2397", func := "packthread/packthreadlaw.CongPlays", spec := "congPlays", apart := false, narrowed := true }
def CongPlaysUptoSaid : Prop := congPlaysUptoRow.holds Try.pinned (OpenSpec.upto congPlaysSpec)

/-- 'packthreadkeep.CongGood', WHERE WHAT IT READS IS OF BULK AT MOST 1048576: true; the input reads as it did. -/
def congGoodUptoRow : OpenClaim := { program := "ytjaaijobdccclaa", sum := "d60b4593ee9d9aaf92c5cdb506f79021d40ec26a9ea1093e9e2364a7f95c2397", func := "packthread/packthreadkeep.CongGood", spec := "congGood", apart := false, narrowed := true }
def CongGoodUptoSaid : Prop := congGoodUptoRow.holds Try.pinned (OpenSpec.upto congGoodSpec)

/-- 'packthreadkeep.CongParts', WHERE WHAT IT READS IS OF BULK AT MOST 1048576: true; the input reads as it did. -/
def congPartsUptoRow : OpenClaim := { program := "ytjaaijobdccclaa", sum := "d60b4593ee9d9aaf92c5cdb506f79021d40ec26a9ea1093e9e2364a7f95c2397", func := "packthread/packthreadkeep.CongParts", spec := "congParts", apart := false, narrowed := true }
def CongPartsUptoSaid : Prop := congPartsUptoRow.holds Try.pinned (OpenSpec.upto congPartsSpec)

/-- 'packthreadkeep.CongSteps', WHERE WHAT IT READS IS OF BULK AT MOST 1048576: true; the input reads as it did. -/
def congStepsUptoRow : OpenClaim := { program := "ytjaaijobdccclaa", sum := "d60b4593ee9d9aaf92c5cdb506f79021d40ec26a9ea1093e9e2364a7f95c2397", func := "packthread/packthreadkeep.CongSteps", spec := "congSteps", apart := false, narrowed := true }
def CongStepsUptoSaid : Prop := congStepsUptoRow.holds Try.pinned (OpenSpec.upto congStepsSpec)

/-- 'packthreadkeep.CongFair', WHERE WHAT IT READS IS OF BULK AT MOST 1048576: true; the input reads as it did. -/
def congFairUptoRow : OpenClaim := { program := "ytjaaijobdccclaa", sum := "d60b4593ee9d9aaf92c5cdb506f79021d40ec26a9ea1093e9e2364a7f95c2397", func := "packthread/packthreadkeep.CongFair", spec := "congFair", unfollowed := true, recurses := true, apart := false, narrowed := true }
def CongFairUptoSaid : Prop := congFairUptoRow.holds Try.pinned (OpenSpec.upto congFairSpec)

end Rows
end Go.Proofs.Ytjaaijobdccclaa
