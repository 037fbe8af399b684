/-
  No cell of these rows narrows 'for every input' (looked for: loops, veiled, ifaces, maps, wideKeys, modest, calm, conditions, laid).
  DERIVED. THE GIVEN ROWS OF THIS SEAT. 8 by the template 'for every input the law returns true; each argument reads behind the call as it read before'; 0 by the template 'total and deterministic' (their statements: YtdfidmdgdajgoaaTotals.lean).
  GIVEN WITH THE SEED: the statements are not yours to turn. If you find one false, say at which input.
  Laid BY PROGRAM, IN A SANDBOX (cutbox-rows.mjs): the forced cells as the released guide's own fill.sh prints them over the translation 6063ed88ce867e09… (all of the seat's roots in one cut). By AI agents, Wed Nov 11 2026. No macro, syntax, notation, axiom, sorry.
-/
import Derived.Test.YtdfidmdgdajgoaaChecked
import GoSem.Claim
import GoSem.ClaimJoined
import GoSem.ClaimMapViews
import Derived.JoinedTies
import Derived.KernelRfl
namespace Go.Proofs.Ytdfidmdgdajgoaa
/- THE CELL 'sum', in the pinned program and in every row, IS THE sha256 OF THE DUMP (.gsa) THAT YtdfidmdgdajgoaaProg.lean LOADS. Nothing in Lean hashes anything: it is a label: what it is worth is what the hold of that sum in a sandbox is worth. -/
noncomputable def Try.pinned : Pinned := { name := "ytdfidmdgdajgoaa", sum := "6063ed88ce867e09349f57119dca0149c2e4664b0294ed91cb33882c62fd1e4e", checked := Try.checked }
namespace Rows
def none {H : Type} : Left H := { results := [], args := [] }

/-- 'packthreadlaw.HoleMays': WHATEVER THE INPUT: true; the input reads as it did. -/
def holeMaysSpec : ChangeSpec := { name := "holeMays", fn := fun _ => fun
  | [d1, d2] => { results := [.lit (.bool true)], args := [d1, d2] }
  | _ => none }
def holeMaysRow : OpenClaim := { program := "ytdfidmdgdajgoaa", sum := "6063ed88ce867e09349f57119dca0149c2e4664b0294ed91cb33882c62fd1e4e", func := "packthread/packthreadlaw.HoleMays", spec := "holeMays", apart := false }
def HoleMaysSaid : Prop := holeMaysRow.holds Try.pinned (OpenSpec.ofChange holeMaysSpec)

/-- ITS FALSE NEIGHBOUR: 'it returns false'. Refute it at one input. -/
def holeMaysWrong : ChangeSpec := { name := "holeMays", fn := fun _ => fun
  | [d1, d2] => { results := [.lit (.bool false)], args := [d1, d2] }
  | _ => none }
def HoleMaysWrongFalsely : Prop := holeMaysRow.holds Try.pinned (OpenSpec.ofChange holeMaysWrong)

/-- 'packthreadlaw.HoleAdds': WHATEVER THE INPUT: true; the input reads as it did. -/
def holeAddsSpec : ChangeSpec := { name := "holeAdds", fn := fun _ => fun
  | [d1, d2, d3] => { results := [.lit (.bool true)], args := [d1, d2, d3] }
  | _ => none }
def holeAddsRow : OpenClaim := { program := "ytdfidmdgdajgoaa", sum := "6063ed88ce867e09349f57119dca0149c2e4664b0294ed91cb33882c62fd1e4e", func := "packthread/packthreadlaw.HoleAdds", spec := "holeAdds", unfollowed := true, recurses := true, apart := false }
def HoleAddsSaid : Prop := holeAddsRow.holds Try.pinned (OpenSpec.ofChange holeAddsSpec)

/-- ITS FALSE NEIGHBOUR: 'it returns false'. Refute it at one input. -/
def holeAddsWrong : ChangeSpec := { name := "holeAdds", fn := fun _ => fun
  | [d1, d2, d3] => { results := [.lit (.bool false)], args := [d1, d2, d3] }
  | _ => none }
def HoleAddsWrongFalsely : Prop := holeAddsRow.holds Try.pinned (OpenSpec.ofChange holeAddsWrong)

/-- 'packthreadlaw.HoleSacks': WHATEVER THE INPUT: true; the input reads as it did. -/
def holeSacksSpec : ChangeSpec := { name := "holeSacks", fn := fun _ => fun
  | [d1, d2, d3, d4] => { results := [.lit (.bool true)], args := [d1, d2, d3, d4] }
  | _ => none }
def holeSacksRow : OpenClaim := { program := "ytdfidmdgdajgoaa", sum := "6063ed88ce867e09349f57119dca0149c2e4664b0294ed91cb33882c62fd1e4e", func := "packthread/packthreadlaw.HoleSacks", spec := "holeSacks", inPlace := ["slices.overlaps[packthread/api.Range]"], unfollowed := true, recurses := true, apart := false }
def HoleSacksSaid : Prop := holeSacksRow.holds Try.pinned (OpenSpec.ofChange holeSacksSpec)

/-- ITS FALSE NEIGHBOUR: 'it returns false'. Refute it at one input. -/
def holeSacksWrong : ChangeSpec := { name := "holeSacks", fn := fun _ => fun
  | [d1, d2, d3, d4] => { results := [.lit (.bool false)], args := [d1, d2, d3, d4] }
  | _ => none }
def HoleSacksWrongFalsely : Prop := holeSacksRow.holds Try.pinned (OpenSpec.ofChange holeSacksWrong)

/-- 'packthreadlaw.HoleGaps': WHATEVER THE INPUT: true; the input reads as it did. -/
def holeGapsSpec : ChangeSpec := { name := "holeGaps", fn := fun _ => fun
  | [d1, d2] => { results := [.lit (.bool true)], args := [d1, d2] }
  | _ => none }
def holeGapsRow : OpenClaim := { program := "ytdfidmdgdajgoaa", sum := "6063ed88ce867e09349f57119dca0149c2e4664b0294ed91cb33882c62fd1e4e", func := "packthread/packthreadlaw.HoleGaps", spec := "holeGaps", apart := false }
def HoleGapsSaid : Prop := holeGapsRow.holds Try.pinned (OpenSpec.ofChange holeGapsSpec)

/-- ITS FALSE NEIGHBOUR: 'it returns false'. Refute it at one input. -/
def holeGapsWrong : ChangeSpec := { name := "holeGaps", fn := fun _ => fun
  | [d1, d2] => { results := [.lit (.bool false)], args := [d1, d2] }
  | _ => none }
def HoleGapsWrongFalsely : Prop := holeGapsRow.holds Try.pinned (OpenSpec.ofChange holeGapsWrong)

/-- 'packthreadkeep.HoleKnows': WHATEVER THE INPUT: true; the input reads as it did. -/
def holeKnowsSpec : ChangeSpec := { name := "holeKnows", fn := fun _ => fun
  | [d1, d2, d3] => { results := [.lit (.bool true)], args := [d1, d2, d3] }
  | _ => none }
def holeKnowsRow : OpenClaim := { program := "ytdfidmdgdajgoaa", sum := "6063ed88ce867e09349f57119dca0149c2e4664b0294ed91cb33882c62fd1e4e", func := "packthread/packthreadkeep.HoleKnows", spec := "holeKnows", apart := false }
def HoleKnowsSaid : Prop := holeKnowsRow.holds Try.pinned (OpenSpec.ofChange holeKnowsSpec)

/-- ITS FALSE NEIGHBOUR: 'it returns false'. Refute it at one input. -/
def holeKnowsWrong : ChangeSpec := { name := "holeKnows", fn := fun _ => fun
  | [d1, d2, d3] => { results := [.lit (.bool false)], args := [d1, d2, d3] }
  | _ => none }
def HoleKnowsWrongFalsely : Prop := holeKnowsRow.holds Try.pinned (OpenSpec.ofChange holeKnowsWrong)

/-- 'packthreadkeep.HoleGrows': WHATEVER THE INPUT: true; the input reads as it did. -/
def holeGrowsSpec : ChangeSpec := { name := "holeGrows", fn := fun _ => fun
  | [d1, d2, d3, d4] => { results := [.lit (.bool true)], args := [d1, d2, d3, d4] }
  | _ => none }
def holeGrowsRow : OpenClaim := { program := "ytdfidmdgdajgoaa", sum := "6063ed88ce867e09349f57119dca0149c2e4664b0294ed91cb33882c62fd1e4e", func := "packthread/packthreadkeep.HoleGrows", spec := "holeGrows", apart := false }
def HoleGrowsSaid : Prop := holeGrowsRow.holds Try.pinned (OpenSpec.ofChange holeGrowsSpec)

/-- ITS FALSE NEIGHBOUR: 'it returns false'. Refute it at one input. -/
def holeGrowsWrong : ChangeSpec := { name := "holeGrows", fn := fun _ => fun
  | [d1, d2, d3, d4] => { results := [.lit (.bool false)], args := [d1, d2, d3, d4] }
  | _ => none }
def HoleGrowsWrongFalsely : Prop := holeGrowsRow.holds Try.pinned (OpenSpec.ofChange holeGrowsWrong)

/-- 'packthreadkeep.HoleGapsAll': WHATEVER THE INPUT: true; the input reads as it did. -/
def holeGapsAllSpec : ChangeSpec := { name := "holeGapsAll", fn := fun _ => fun
  | [d1, d2] => { results := [.lit (.bool true)], args := [d1, d2] }
  | _ => none }
def holeGapsAllRow : OpenClaim := { program := "ytdfidmdgdajgoaa", sum := "6063ed88ce867e09349f57119dca0149c2e4664b0294ed91cb33882c62fd1e4e", func := "packthread/packthreadkeep.HoleGapsAll", spec := "holeGapsAll", apart := false }
def HoleGapsAllSaid : Prop := holeGapsAllRow.holds Try.pinned (OpenSpec.ofChange holeGapsAllSpec)

/-- ITS FALSE NEIGHBOUR: 'it returns false'. Refute it at one input. -/
def holeGapsAllWrong : ChangeSpec := { name := "holeGapsAll", fn := fun _ => fun
  | [d1, d2] => { results := [.lit (.bool false)], args := [d1, d2] }
  | _ => none }
def HoleGapsAllWrongFalsely : Prop := holeGapsAllRow.holds Try.pinned (OpenSpec.ofChange holeGapsAllWrong)

/-- 'packthreadkeep.SacksFirst': WHATEVER THE INPUT: true; the input reads as it did. -/
def sacksFirstSpec : ChangeSpec := { name := "sacksFirst", fn := fun _ => fun
  | [d1, d2, d3] => { results := [.lit (.bool true)], args := [d1, d2, d3] }
  | _ => none }
def sacksFirstRow : OpenClaim := { program := "ytdfidmdgdajgoaa", sum := "6063ed88ce867e09349f57119dca0149c2e4664b0294ed91cb33882c62fd1e4e", func := "packthread/packthreadkeep.SacksFirst", spec := "sacksFirst", inPlace := ["slices.overlaps[packthread/api.Range]"], unfollowed := true, recurses := true, apart := false }
def SacksFirstSaid : Prop := sacksFirstRow.holds Try.pinned (OpenSpec.ofChange sacksFirstSpec)

/-- ITS FALSE NEIGHBOUR: 'it returns false'. Refute it at one input. -/
def sacksFirstWrong : ChangeSpec := { name := "sacksFirst", fn := fun _ => fun
  | [d1, d2, d3] => { results := [.lit (.bool false)], args := [d1, d2, d3] }
  | _ => none }
def SacksFirstWrongFalsely : Prop := sacksFirstRow.holds Try.pinned (OpenSpec.ofChange sacksFirstWrong)

/- THE SECOND FORM. 'bulk': how many values and letters a reading holds, each counted each time it is reached (what is shared counts as often as it is met; a slice's spare places count too). A statement '..UptoSaid' is the law's where the arguments, and the package variables that the reading takes, are together of bulk at most 1048576: NARROWER than '..Said'. Prove '..Said' where nothing that the law and all that it calls make is longer than what came in: it says more and counts as full. Else prove '..UptoSaid'. A law counts once. -/
mutual
def uptoBulk {H : Type} : DataW H → Nat
  | .lit (.string bytes) => bytes.length + 1
  | .lit _ => 1
  | .nil => 1
  | .ptr d => uptoBulk d + 1
  | .slice elems spare => uptoBulkAll elems + uptoBulkAll spare + 1
  | .agg parts => uptoBulkAll parts + 1
  | .iface _ d => uptoBulk d + 1
  | .map entries => uptoBulkEntries entries + 1
  | .held _ => 1
def uptoBulkAll {H : Type} : List (DataW H) → Nat
  | [] => 0
  | d :: r => uptoBulk d + uptoBulkAll r
def uptoBulkEntries {H : Type} : List (Lit × DataW H) → Nat
  | [] => 0
  | x :: r => uptoBulkEntry x + uptoBulkEntries r
def uptoBulkEntry {H : Type} : Lit × DataW H → Nat
  | (.string bytes, d) => bytes.length + uptoBulk d + 1
  | (_, d) => uptoBulk d + 1
 end
def uptoSmall : (H : Type) → List (DataW H) → Bool := fun _ ds => decide (uptoBulkAll ds ≤ 1048576)
def OpenSpec.upto (s : _root_.Go.ChangeSpec) : _root_.Go.OpenSpec := { _root_.Go.OpenSpec.ofChange s with cond := some uptoSmall }

/-- 'packthreadlaw.HoleMays', WHERE WHAT IT READS IS OF BULK AT MOST 1048576: true; the input reads as it did. -/
def holeMaysUptoRow : OpenClaim := { program := "ytdfidmdgdajgoaa", sum := "6063ed88ce867e09349f57119dca0149c2e4664b0294ed91cb33882c62fd1e4e", func := "packthread/packthreadlaw.HoleMays", spec := "holeMays", apart := false, narrowed := true }
def HoleMaysUptoSaid : Prop := holeMaysUptoRow.holds Try.pinned (OpenSpec.upto holeMaysSpec)

/-- 'packthreadlaw.HoleAdds', WHERE WHAT IT READS IS OF BULK AT MOST 1048576: true; the input reads as it did. -/
def holeAddsUptoRow : OpenClaim := { program := "ytdfidmdgdajgoaa", sum := "6063ed88ce867e09349f57119dca0149c2e4664b0294ed91cb33882c62fd1e4e", func := "packthread/packthreadlaw.HoleAdds", spec := "holeAdds", unfollowed := true, recurses := true, apart := false, narrowed := true }
def HoleAddsUptoSaid : Prop := holeAddsUptoRow.holds Try.pinned (OpenSpec.upto holeAddsSpec)

/-- 'packthreadlaw.HoleSacks', WHERE WHAT IT READS IS OF BULK AT MOST 1048576: true; the input reads as it did. -/
def holeSacksUptoRow : OpenClaim := { program := "ytdfidmdgdajgoaa", sum := "6063ed88ce867e09349f57119dca0149c2e4664b0294ed91cb33882c62fd1e4e", func := "packthread/packthreadlaw.HoleSacks", spec := "holeSacks", inPlace := ["slices.overlaps[packthread/api.Range]"], unfollowed := true, recurses := true, apart := false, narrowed := true }
def HoleSacksUptoSaid : Prop := holeSacksUptoRow.holds Try.pinned (OpenSpec.upto holeSacksSpec)

/-- 'packthreadlaw.HoleGaps', WHERE WHAT IT READS IS OF BULK AT MOST 1048576: true; the input reads as it did. -/
def holeGapsUptoRow : OpenClaim := { program := "ytdfidmdgdajgoaa", sum := "6063ed88ce867e09349f57119dca0149c2e4664b0294ed91cb33882c62fd1e4e", func := "packthread/packthreadlaw.HoleGaps", spec := "holeGaps", apart := false, narrowed := true }
def HoleGapsUptoSaid : Prop := holeGapsUptoRow.holds Try.pinned (OpenSpec.upto holeGapsSpec)

/-- 'packthreadkeep.HoleKnows', WHERE WHAT IT READS IS OF BULK AT MOST 1048576: true; the input reads as it did. -/
def holeKnowsUptoRow : OpenClaim := { program := "ytdfidmdgdajgoaa", sum := "6063ed88ce867e09349f57119dca0149c2e4664b0294ed91cb33882c62fd1e4e", func := "packthread/packthreadkeep.HoleKnows", spec := "holeKnows", apart := false, narrowed := true }
def HoleKnowsUptoSaid : Prop := holeKnowsUptoRow.holds Try.pinned (OpenSpec.upto holeKnowsSpec)

/-- 'packthreadkeep.HoleGrows', WHERE WHAT IT READS IS OF BULK AT MOST 1048576: true; the input reads as it did. -/
def holeGrowsUptoRow : OpenClaim := { program := "ytdfidmdgdajgoaa", sum := "6063ed88ce867e09349f57119dca0149c2e4664b0294ed91cb33882c62fd1e4e", func := "packthread/packthreadkeep.HoleGrows", spec := "holeGrows", apart := false, narrowed := true }
def HoleGrowsUptoSaid : Prop := holeGrowsUptoRow.holds Try.pinned (OpenSpec.upto holeGrowsSpec)

/-- 'packthreadkeep.HoleGapsAll', WHERE WHAT IT READS IS OF BULK AT MOST 1048576: true; the input reads as it did. -/
def holeGapsAllUptoRow : OpenClaim := { program := "ytdfidmdgdajgoaa", sum := "6063ed88ce867e09349f57119dca0149c2e4664b0294ed91cb33882c62fd1e4e", func := "packthread/packthreadkeep.HoleGapsAll", spec := "holeGapsAll", apart := false, narrowed := true }
def HoleGapsAllUptoSaid : Prop := holeGapsAllUptoRow.holds Try.pinned (OpenSpec.upto holeGapsAllSpec)

/-- 'packthreadkeep.SacksFirst', WHERE WHAT IT READS IS OF BULK AT MOST 1048576: true; the input reads as it did. -/
def sacksFirstUptoRow : OpenClaim := { program := "ytdfidmdgdajgoaa", sum := "6063ed88ce867e09349f57119dca0149c2e4664b0294ed91cb33882c62fd1e4e", func := "packthread/packthreadkeep.SacksFirst", spec := "sacksFirst", inPlace := ["slices.overlaps[packthread/api.Range]"], unfollowed := true, recurses := true, apart := false, narrowed := true }
def SacksFirstUptoSaid : Prop := sacksFirstUptoRow.holds Try.pinned (OpenSpec.upto sacksFirstSpec)

end Rows
end Go.Proofs.Ytdfidmdgdajgoaa
