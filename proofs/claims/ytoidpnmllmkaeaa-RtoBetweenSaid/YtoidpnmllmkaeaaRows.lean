/-
  No cell of these rows narrows 'for every input' (looked for: loops, veiled, ifaces, maps, wideKeys, modest, calm, conditions, laid).
  DERIVED. THE GIVEN ROWS OF THIS SEAT. 8 by the template 'for every input the law returns true; each argument reads behind the call as it read before'; 0 by the template 'total and deterministic' (their statements: YtoidpnmllmkaeaaTotals.lean).
  GIVEN WITH THE SEED: the statements are not yours to turn. If you find one false, say at which input.
  Laid BY PROGRAM, IN A SANDBOX (cutbox-rows.mjs): the forced cells as the released guide's own fill.sh prints them over the translation 420221498e54f6d0… (all of the seat's roots in one cut). By AI agents, Wed Nov 11 2026. No macro, syntax, notation, axiom, sorry.
-/
import Derived.Test.YtoidpnmllmkaeaaChecked
import GoSem.Claim
import GoSem.ClaimJoined
import GoSem.ClaimMapViews
import Derived.JoinedTies
import Derived.KernelRfl
namespace Go.Proofs.Ytoidpnmllmkaeaa
/- THE CELL 'sum', in the pinned program and in every row, IS THE sha256 OF THE DUMP (.gsa) THAT YtoidpnmllmkaeaaProg.lean LOADS. Nothing in Lean hashes anything: it is a label: what it is worth is what the hold of that sum in a sandbox is worth. -/
noncomputable def Try.pinned : Pinned := { name := "ytoidpnmllmkaeaa", sum := "420221498e54f6d0fcc6fb259a25f4bd27e8961f4b75ae5c4c9a0eb89a18f7c9", checked := Try.checked }
namespace Rows
def none {H : Type} : Left H := { results := [], args := [] }

/-- 'packthreadlaw.RtoMays': WHATEVER THE INPUT: true; the input reads as it did. -/
def rtoMaysSpec : ChangeSpec := { name := "rtoMays", fn := fun _ => fun
  | [d] => { results := [.lit (.bool true)], args := [d] }
  | _ => none }
def rtoMaysRow : OpenClaim := { program := "ytoidpnmllmkaeaa", sum := "420221498e54f6d0fcc6fb259a25f4bd27e8961f4b75ae5c4c9a0eb89a18f7c9", func := "packthread/packthreadlaw.RtoMays", spec := "rtoMays", apart := false }
def RtoMaysSaid : Prop := rtoMaysRow.holds Try.pinned (OpenSpec.ofChange rtoMaysSpec)

/-- ITS FALSE NEIGHBOUR: 'it returns false'. Refute it at one input. -/
def rtoMaysWrong : ChangeSpec := { name := "rtoMays", fn := fun _ => fun
  | [d] => { results := [.lit (.bool false)], args := [d] }
  | _ => none }
def RtoMaysWrongFalsely : Prop := rtoMaysRow.holds Try.pinned (OpenSpec.ofChange rtoMaysWrong)

/-- 'packthreadlaw.RtoFirsts': WHATEVER THE INPUT: true; the input reads as it did. -/
def rtoFirstsSpec : ChangeSpec := { name := "rtoFirsts", fn := fun _ => fun
  | [d] => { results := [.lit (.bool true)], args := [d] }
  | _ => none }
def rtoFirstsRow : OpenClaim := { program := "ytoidpnmllmkaeaa", sum := "420221498e54f6d0fcc6fb259a25f4bd27e8961f4b75ae5c4c9a0eb89a18f7c9", func := "packthread/packthreadlaw.RtoFirsts", spec := "rtoFirsts", apart := false }
def RtoFirstsSaid : Prop := rtoFirstsRow.holds Try.pinned (OpenSpec.ofChange rtoFirstsSpec)

/-- ITS FALSE NEIGHBOUR: 'it returns false'. Refute it at one input. -/
def rtoFirstsWrong : ChangeSpec := { name := "rtoFirsts", fn := fun _ => fun
  | [d] => { results := [.lit (.bool false)], args := [d] }
  | _ => none }
def RtoFirstsWrongFalsely : Prop := rtoFirstsRow.holds Try.pinned (OpenSpec.ofChange rtoFirstsWrong)

/-- 'packthreadlaw.RtoNexts': WHATEVER THE INPUT: true; the input reads as it did. -/
def rtoNextsSpec : ChangeSpec := { name := "rtoNexts", fn := fun _ => fun
  | [d1, d2] => { results := [.lit (.bool true)], args := [d1, d2] }
  | _ => none }
def rtoNextsRow : OpenClaim := { program := "ytoidpnmllmkaeaa", sum := "420221498e54f6d0fcc6fb259a25f4bd27e8961f4b75ae5c4c9a0eb89a18f7c9", func := "packthread/packthreadlaw.RtoNexts", spec := "rtoNexts", apart := false }
def RtoNextsSaid : Prop := rtoNextsRow.holds Try.pinned (OpenSpec.ofChange rtoNextsSpec)

/-- ITS FALSE NEIGHBOUR: 'it returns false'. Refute it at one input. -/
def rtoNextsWrong : ChangeSpec := { name := "rtoNexts", fn := fun _ => fun
  | [d1, d2] => { results := [.lit (.bool false)], args := [d1, d2] }
  | _ => none }
def RtoNextsWrongFalsely : Prop := rtoNextsRow.holds Try.pinned (OpenSpec.ofChange rtoNextsWrong)

/-- 'packthreadlaw.RtoBacks': WHATEVER THE INPUT: true; the input reads as it did. -/
def rtoBacksSpec : ChangeSpec := { name := "rtoBacks", fn := fun _ => fun
  | [d] => { results := [.lit (.bool true)], args := [d] }
  | _ => none }
def rtoBacksRow : OpenClaim := { program := "ytoidpnmllmkaeaa", sum := "420221498e54f6d0fcc6fb259a25f4bd27e8961f4b75ae5c4c9a0eb89a18f7c9", func := "packthread/packthreadlaw.RtoBacks", spec := "rtoBacks", apart := false }
def RtoBacksSaid : Prop := rtoBacksRow.holds Try.pinned (OpenSpec.ofChange rtoBacksSpec)

/-- ITS FALSE NEIGHBOUR: 'it returns false'. Refute it at one input. -/
def rtoBacksWrong : ChangeSpec := { name := "rtoBacks", fn := fun _ => fun
  | [d] => { results := [.lit (.bool false)], args := [d] }
  | _ => none }
def RtoBacksWrongFalsely : Prop := rtoBacksRow.holds Try.pinned (OpenSpec.ofChange rtoBacksWrong)

/-- 'packthreadkeep.RtoGood': WHATEVER THE INPUT: true; the input reads as it did. -/
def rtoGoodSpec : ChangeSpec := { name := "rtoGood", fn := fun _ => fun
  | [d1, d2] => { results := [.lit (.bool true)], args := [d1, d2] }
  | _ => none }
def rtoGoodRow : OpenClaim := { program := "ytoidpnmllmkaeaa", sum := "420221498e54f6d0fcc6fb259a25f4bd27e8961f4b75ae5c4c9a0eb89a18f7c9", func := "packthread/packthreadkeep.RtoGood", spec := "rtoGood", apart := false }
def RtoGoodSaid : Prop := rtoGoodRow.holds Try.pinned (OpenSpec.ofChange rtoGoodSpec)

/-- ITS FALSE NEIGHBOUR: 'it returns false'. Refute it at one input. -/
def rtoGoodWrong : ChangeSpec := { name := "rtoGood", fn := fun _ => fun
  | [d1, d2] => { results := [.lit (.bool false)], args := [d1, d2] }
  | _ => none }
def RtoGoodWrongFalsely : Prop := rtoGoodRow.holds Try.pinned (OpenSpec.ofChange rtoGoodWrong)

/-- 'packthreadkeep.RtoMeets': WHATEVER THE INPUT: true; the input reads as it did. -/
def rtoMeetsSpec : ChangeSpec := { name := "rtoMeets", fn := fun _ => fun
  | [d1, d2] => { results := [.lit (.bool true)], args := [d1, d2] }
  | _ => none }
def rtoMeetsRow : OpenClaim := { program := "ytoidpnmllmkaeaa", sum := "420221498e54f6d0fcc6fb259a25f4bd27e8961f4b75ae5c4c9a0eb89a18f7c9", func := "packthread/packthreadkeep.RtoMeets", spec := "rtoMeets", apart := false }
def RtoMeetsSaid : Prop := rtoMeetsRow.holds Try.pinned (OpenSpec.ofChange rtoMeetsSpec)

/-- ITS FALSE NEIGHBOUR: 'it returns false'. Refute it at one input. -/
def rtoMeetsWrong : ChangeSpec := { name := "rtoMeets", fn := fun _ => fun
  | [d1, d2] => { results := [.lit (.bool false)], args := [d1, d2] }
  | _ => none }
def RtoMeetsWrongFalsely : Prop := rtoMeetsRow.holds Try.pinned (OpenSpec.ofChange rtoMeetsWrong)

/-- 'packthreadkeep.RtoBetween': WHATEVER THE INPUT: true; the input reads as it did. -/
def rtoBetweenSpec : ChangeSpec := { name := "rtoBetween", fn := fun _ => fun
  | [d1, d2] => { results := [.lit (.bool true)], args := [d1, d2] }
  | _ => none }
def rtoBetweenRow : OpenClaim := { program := "ytoidpnmllmkaeaa", sum := "420221498e54f6d0fcc6fb259a25f4bd27e8961f4b75ae5c4c9a0eb89a18f7c9", func := "packthread/packthreadkeep.RtoBetween", spec := "rtoBetween", apart := false }
def RtoBetweenSaid : Prop := rtoBetweenRow.holds Try.pinned (OpenSpec.ofChange rtoBetweenSpec)

/-- ITS FALSE NEIGHBOUR: 'it returns false'. Refute it at one input. -/
def rtoBetweenWrong : ChangeSpec := { name := "rtoBetween", fn := fun _ => fun
  | [d1, d2] => { results := [.lit (.bool false)], args := [d1, d2] }
  | _ => none }
def RtoBetweenWrongFalsely : Prop := rtoBetweenRow.holds Try.pinned (OpenSpec.ofChange rtoBetweenWrong)

/-- 'packthreadkeep.RtoDoubles': WHATEVER THE INPUT: true; the input reads as it did. -/
def rtoDoublesSpec : ChangeSpec := { name := "rtoDoubles", fn := fun _ => fun
  | [d1, d2] => { results := [.lit (.bool true)], args := [d1, d2] }
  | _ => none }
def rtoDoublesRow : OpenClaim := { program := "ytoidpnmllmkaeaa", sum := "420221498e54f6d0fcc6fb259a25f4bd27e8961f4b75ae5c4c9a0eb89a18f7c9", func := "packthread/packthreadkeep.RtoDoubles", spec := "rtoDoubles", apart := false }
def RtoDoublesSaid : Prop := rtoDoublesRow.holds Try.pinned (OpenSpec.ofChange rtoDoublesSpec)

/-- ITS FALSE NEIGHBOUR: 'it returns false'. Refute it at one input. -/
def rtoDoublesWrong : ChangeSpec := { name := "rtoDoubles", fn := fun _ => fun
  | [d1, d2] => { results := [.lit (.bool false)], args := [d1, d2] }
  | _ => none }
def RtoDoublesWrongFalsely : Prop := rtoDoublesRow.holds Try.pinned (OpenSpec.ofChange rtoDoublesWrong)

/- THE SECOND FORM. 'bulk': how many values and letters a reading holds, each counted each time it is reached (what is shared counts as often as it is met; a slice's spare places count too). A statement '..UptoSaid' is the law's where the arguments, and the package variables that the reading takes, are together of bulk at most 1048576: NARROWER than '..Said'. Prove '..Said' where nothing that the law and all that it calls make is longer than what came in: it says more and counts as full. Else prove '..UptoSaid'. A law counts once. -/
mutual
def uptoBulk {H : Type} : DataW H → Nat
  | .lit (.string bytes) => bytes.length + 1
  | .lit _ => 1
  | .nil => 1
  | .ptr d => uptoBulk d + 1
  | .slice elems spare => uptoBulkAll elems + uptoBulkAll spare + 1
  | .agg parts => uptoBulkAll parts + 1
  | .iface _ d => uptoBulk d + 1
  | .map entries => uptoBulkEntries entries + 1
  | .held _ => 1
def uptoBulkAll {H : Type} : List (DataW H) → Nat
  | [] => 0
  | d :: r => uptoBulk d + uptoBulkAll r
def uptoBulkEntries {H : Type} : List (Lit × DataW H) → Nat
  | [] => 0
  | x :: r => uptoBulkEntry x + uptoBulkEntries r
def uptoBulkEntry {H : Type} : Lit × DataW H → Nat
  | (.string bytes, d) => bytes.length + uptoBulk d + 1
  | (_, d) => uptoBulk d + 1
 end
def uptoSmall : (H : Type) → List (DataW H) → Bool := fun _ ds => decide (uptoBulkAll ds ≤ 1048576)
def OpenSpec.upto (s : _root_.Go.ChangeSpec) : _root_.Go.OpenSpec := { _root_.Go.OpenSpec.ofChange s with cond := some uptoSmall }

/-- 'packthreadlaw.RtoMays', WHERE WHAT IT READS IS OF BULK AT MOST 1048576: true; the input reads as it did. -/
def rtoMaysUptoRow : OpenClaim := { program := "ytoidpnmllmkaeaa", sum := "420221498e54f6d0fcc6fb259a25f4bd27e8961f4b75ae5c4c9a0eb89a18f7c9", func := "packthread/packthreadlaw.RtoMays", spec := "rtoMays", apart := false, narrowed := true }
def RtoMaysUptoSaid : Prop := rtoMaysUptoRow.holds Try.pinned (OpenSpec.upto rtoMaysSpec)

/-- 'packthreadlaw.RtoFirsts', WHERE WHAT IT READS IS OF BULK AT MOST 1048576: true; the input reads as it did. -/
def rtoFirstsUptoRow : OpenClaim := { program := "ytoidpnmllmkaeaa", sum := "420221498e54f6d0fcc6fb259a25f4bd27e8961f4b75ae5c4c9a0eb89a18f7c9", func := "packthread/packthreadlaw.RtoFirsts", spec := "rtoFirsts", apart := false, narrowed := true }
def RtoFirstsUptoSaid : Prop := rtoFirstsUptoRow.holds Try.pinned (OpenSpec.upto rtoFirstsSpec)

/-- 'packthreadlaw.RtoNexts', WHERE WHAT IT READS IS OF BULK AT MOST 1048576: true; the input reads as it did. -/
def rtoNextsUptoRow : OpenClaim := { program := "ytoidpnmllmkaeaa", sum := "420221498e54f6d0fcc6fb259a25f4bd27e8961f4b75ae5c4c9a0eb89a18f7c9", func := "packthread/packthreadlaw.RtoNexts", spec := "rtoNexts", apart := false, narrowed := true }
def RtoNextsUptoSaid : Prop := rtoNextsUptoRow.holds Try.pinned (OpenSpec.upto rtoNextsSpec)

/-- 'packthreadlaw.RtoBacks', WHERE WHAT IT READS IS OF BULK AT MOST 1048576: true; the input reads as it did. -/
def rtoBacksUptoRow : OpenClaim := { program := "ytoidpnmllmkaeaa", sum := "420221498e54f6d0fcc6fb259a25f4bd27e8961f4b75ae5c4c9a0eb89a18f7c9", func := "packthread/packthreadlaw.RtoBacks", spec := "rtoBacks", apart := false, narrowed := true }
def RtoBacksUptoSaid : Prop := rtoBacksUptoRow.holds Try.pinned (OpenSpec.upto rtoBacksSpec)

/-- 'packthreadkeep.RtoGood', WHERE WHAT IT READS IS OF BULK AT MOST 1048576: true; the input reads as it did. -/
def rtoGoodUptoRow : OpenClaim := { program := "ytoidpnmllmkaeaa", sum := "420221498e54f6d0fcc6fb259a25f4bd27e8961f4b75ae5c4c9a0eb89a18f7c9", func := "packthread/packthreadkeep.RtoGood", spec := "rtoGood", apart := false, narrowed := true }
def RtoGoodUptoSaid : Prop := rtoGoodUptoRow.holds Try.pinned (OpenSpec.upto rtoGoodSpec)

/-- 'packthreadkeep.RtoMeets', WHERE WHAT IT READS IS OF BULK AT MOST 1048576: true; the input reads as it did. -/
def rtoMeetsUptoRow : OpenClaim := { program := "ytoidpnmllmkaeaa", sum := "420221498e54f6d0fcc6fb259a25f4bd27e8961f4b75ae5c4c9a0eb89a18f7c9", func := "packthread/packthreadkeep.RtoMeets", spec := "rtoMeets", apart := false, narrowed := true }
def RtoMeetsUptoSaid : Prop := rtoMeetsUptoRow.holds Try.pinned (OpenSpec.upto rtoMeetsSpec)

/-- 'packthreadkeep.RtoBetween', WHERE WHAT IT READS IS OF BULK AT MOST 1048576: true; the input reads as it did. -/
def rtoBetweenUptoRow : OpenClaim := { program := "ytoidpnmllmkaeaa", sum := "420221498e54f6d0fcc6fb259a25f4bd27e8961f4b75ae5c4c9a0eb89a18f7c9", func := "packthread/packthreadkeep.RtoBetween", spec := "rtoBetween", apart := false, narrowed := true }
def RtoBetweenUptoSaid : Prop := rtoBetweenUptoRow.holds Try.pinned (OpenSpec.upto rtoBetweenSpec)

/-- 'packthreadkeep.RtoDoubles', WHERE WHAT IT READS IS OF BULK AT MOST 1048576: true; the input reads as it did. -/
def rtoDoublesUptoRow : OpenClaim := { program := "ytoidpnmllmkaeaa", sum := "420221498e54f6d0fcc6fb259a25f4bd27e8961f4b75ae5c4c9a0eb89a18f7c9", func := "packthread/packthreadkeep.RtoDoubles", spec := "rtoDoubles", apart := false, narrowed := true }
def RtoDoublesUptoSaid : Prop := rtoDoublesUptoRow.holds Try.pinned (OpenSpec.upto rtoDoublesSpec)

end Rows
end Go.Proofs.Ytoidpnmllmkaeaa
