/-
  No cell of these rows narrows 'for every input' (looked for: loops, veiled, ifaces, maps, wideKeys, modest, calm, conditions, laid).
  DERIVED. THE GIVEN ROWS OF THIS SEAT. 10 by the template 'for every input the law returns true; each argument reads behind the call as it read before'; 0 by the template 'total and deterministic' (their statements: YtmgjagfjpaofjaaTotals.lean).
  GIVEN WITH THE SEED: the statements are not yours to turn. If you find one false, say at which input.
  Laid BY PROGRAM, IN A SANDBOX (cutbox-rows.mjs): the forced cells as the released guide's own fill.sh prints them over the translation e96fd53c720fa8b1… (all of the seat's roots in one cut). By AI agents, Wed Nov 11 2026. No macro, syntax, notation, axiom, sorry.
-/
import Derived.Test.YtmgjagfjpaofjaaChecked
import GoSem.Claim
import GoSem.ClaimJoined
import GoSem.ClaimMapViews
import Derived.JoinedTies
import Derived.KernelRfl
namespace Go.Proofs.Ytmgjagfjpaofjaa
/- THE CELL 'sum', in the pinned program and in every row, IS THE sha256 OF THE DUMP (.gsa) THAT YtmgjagfjpaofjaaProg.lean LOADS. Nothing in Lean hashes anything: it is a label: what it is worth is what the hold of that sum in a sandbox is worth. -/
noncomputable def Try.pinned : Pinned := { name := "ytmgjagfjpaofjaa", sum := "e96fd53c720fa8b191716189d508a31448c47df1f76a7391ffe05c4036088135", checked := Try.checked }
namespace Rows
def none {H : Type} : Left H := { results := [], args := [] }

/-- 'packthreadlaw.SerialAdds': WHATEVER THE INPUT: true; the input reads as it did. -/
def serialAddsSpec : ChangeSpec := { name := "serialAdds", fn := fun _ => fun
  | [d1, d2] => { results := [.lit (.bool true)], args := [d1, d2] }
  | _ => none }
def serialAddsRow : OpenClaim := { program := "ytmgjagfjpaofjaa", sum := "e96fd53c720fa8b191716189d508a31448c47df1f76a7391ffe05c4036088135", func := "packthread/packthreadlaw.SerialAdds", spec := "serialAdds", apart := false }
def SerialAddsSaid : Prop := serialAddsRow.holds Try.pinned (OpenSpec.ofChange serialAddsSpec)

/-- ITS FALSE NEIGHBOUR: 'it returns false'. Refute it at one input. -/
def serialAddsWrong : ChangeSpec := { name := "serialAdds", fn := fun _ => fun
  | [d1, d2] => { results := [.lit (.bool false)], args := [d1, d2] }
  | _ => none }
def SerialAddsWrongFalsely : Prop := serialAddsRow.holds Try.pinned (OpenSpec.ofChange serialAddsWrong)

/-- 'packthreadlaw.SerialFars': WHATEVER THE INPUT: true; the input reads as it did. -/
def serialFarsSpec : ChangeSpec := { name := "serialFars", fn := fun _ => fun
  | [d1, d2] => { results := [.lit (.bool true)], args := [d1, d2] }
  | _ => none }
def serialFarsRow : OpenClaim := { program := "ytmgjagfjpaofjaa", sum := "e96fd53c720fa8b191716189d508a31448c47df1f76a7391ffe05c4036088135", func := "packthread/packthreadlaw.SerialFars", spec := "serialFars", apart := false }
def SerialFarsSaid : Prop := serialFarsRow.holds Try.pinned (OpenSpec.ofChange serialFarsSpec)

/-- ITS FALSE NEIGHBOUR: 'it returns false'. Refute it at one input. -/
def serialFarsWrong : ChangeSpec := { name := "serialFars", fn := fun _ => fun
  | [d1, d2] => { results := [.lit (.bool false)], args := [d1, d2] }
  | _ => none }
def SerialFarsWrongFalsely : Prop := serialFarsRow.holds Try.pinned (OpenSpec.ofChange serialFarsWrong)

/-- 'packthreadlaw.SerialOrders': WHATEVER THE INPUT: true; the input reads as it did. -/
def serialOrdersSpec : ChangeSpec := { name := "serialOrders", fn := fun _ => fun
  | [d1, d2] => { results := [.lit (.bool true)], args := [d1, d2] }
  | _ => none }
def serialOrdersRow : OpenClaim := { program := "ytmgjagfjpaofjaa", sum := "e96fd53c720fa8b191716189d508a31448c47df1f76a7391ffe05c4036088135", func := "packthread/packthreadlaw.SerialOrders", spec := "serialOrders", apart := false }
def SerialOrdersSaid : Prop := serialOrdersRow.holds Try.pinned (OpenSpec.ofChange serialOrdersSpec)

/-- ITS FALSE NEIGHBOUR: 'it returns false'. Refute it at one input. -/
def serialOrdersWrong : ChangeSpec := { name := "serialOrders", fn := fun _ => fun
  | [d1, d2] => { results := [.lit (.bool false)], args := [d1, d2] }
  | _ => none }
def SerialOrdersWrongFalsely : Prop := serialOrdersRow.holds Try.pinned (OpenSpec.ofChange serialOrdersWrong)

/-- 'packthreadlaw.SerialWithins': WHATEVER THE INPUT: true; the input reads as it did. -/
def serialWithinsSpec : ChangeSpec := { name := "serialWithins", fn := fun _ => fun
  | [d1, d2, d3] => { results := [.lit (.bool true)], args := [d1, d2, d3] }
  | _ => none }
def serialWithinsRow : OpenClaim := { program := "ytmgjagfjpaofjaa", sum := "e96fd53c720fa8b191716189d508a31448c47df1f76a7391ffe05c4036088135", func := "packthread/packthreadlaw.SerialWithins", spec := "serialWithins", apart := false }
def SerialWithinsSaid : Prop := serialWithinsRow.holds Try.pinned (OpenSpec.ofChange serialWithinsSpec)

/-- ITS FALSE NEIGHBOUR: 'it returns false'. Refute it at one input. -/
def serialWithinsWrong : ChangeSpec := { name := "serialWithins", fn := fun _ => fun
  | [d1, d2, d3] => { results := [.lit (.bool false)], args := [d1, d2, d3] }
  | _ => none }
def SerialWithinsWrongFalsely : Prop := serialWithinsRow.holds Try.pinned (OpenSpec.ofChange serialWithinsWrong)

/-- 'packthreadlaw.SerialNears': WHATEVER THE INPUT: true; the input reads as it did. -/
def serialNearsSpec : ChangeSpec := { name := "serialNears", fn := fun _ => fun
  | [d1, d2] => { results := [.lit (.bool true)], args := [d1, d2] }
  | _ => none }
def serialNearsRow : OpenClaim := { program := "ytmgjagfjpaofjaa", sum := "e96fd53c720fa8b191716189d508a31448c47df1f76a7391ffe05c4036088135", func := "packthread/packthreadlaw.SerialNears", spec := "serialNears", apart := false }
def SerialNearsSaid : Prop := serialNearsRow.holds Try.pinned (OpenSpec.ofChange serialNearsSpec)

/-- ITS FALSE NEIGHBOUR: 'it returns false'. Refute it at one input. -/
def serialNearsWrong : ChangeSpec := { name := "serialNears", fn := fun _ => fun
  | [d1, d2] => { results := [.lit (.bool false)], args := [d1, d2] }
  | _ => none }
def SerialNearsWrongFalsely : Prop := serialNearsRow.holds Try.pinned (OpenSpec.ofChange serialNearsWrong)

/-- 'packthreadkeep.SerialAhead': WHATEVER THE INPUT: true; the input reads as it did. -/
def serialAheadSpec : ChangeSpec := { name := "serialAhead", fn := fun _ => fun
  | [d1, d2, d3] => { results := [.lit (.bool true)], args := [d1, d2, d3] }
  | _ => none }
def serialAheadRow : OpenClaim := { program := "ytmgjagfjpaofjaa", sum := "e96fd53c720fa8b191716189d508a31448c47df1f76a7391ffe05c4036088135", func := "packthread/packthreadkeep.SerialAhead", spec := "serialAhead", apart := false }
def SerialAheadSaid : Prop := serialAheadRow.holds Try.pinned (OpenSpec.ofChange serialAheadSpec)

/-- ITS FALSE NEIGHBOUR: 'it returns false'. Refute it at one input. -/
def serialAheadWrong : ChangeSpec := { name := "serialAhead", fn := fun _ => fun
  | [d1, d2, d3] => { results := [.lit (.bool false)], args := [d1, d2, d3] }
  | _ => none }
def SerialAheadWrongFalsely : Prop := serialAheadRow.holds Try.pinned (OpenSpec.ofChange serialAheadWrong)

/-- 'packthreadkeep.SerialHalf': WHATEVER THE INPUT: true; the input reads as it did. -/
def serialHalfSpec : ChangeSpec := { name := "serialHalf", fn := fun _ => fun
  | [d1, d2, d3] => { results := [.lit (.bool true)], args := [d1, d2, d3] }
  | _ => none }
def serialHalfRow : OpenClaim := { program := "ytmgjagfjpaofjaa", sum := "e96fd53c720fa8b191716189d508a31448c47df1f76a7391ffe05c4036088135", func := "packthread/packthreadkeep.SerialHalf", spec := "serialHalf", apart := false }
def SerialHalfSaid : Prop := serialHalfRow.holds Try.pinned (OpenSpec.ofChange serialHalfSpec)

/-- ITS FALSE NEIGHBOUR: 'it returns false'. Refute it at one input. -/
def serialHalfWrong : ChangeSpec := { name := "serialHalf", fn := fun _ => fun
  | [d1, d2, d3] => { results := [.lit (.bool false)], args := [d1, d2, d3] }
  | _ => none }
def SerialHalfWrongFalsely : Prop := serialHalfRow.holds Try.pinned (OpenSpec.ofChange serialHalfWrong)

/-- 'packthreadkeep.NearBack': WHATEVER THE INPUT: true; the input reads as it did. -/
def nearBackSpec : ChangeSpec := { name := "nearBack", fn := fun _ => fun
  | [d1, d2] => { results := [.lit (.bool true)], args := [d1, d2] }
  | _ => none }
def nearBackRow : OpenClaim := { program := "ytmgjagfjpaofjaa", sum := "e96fd53c720fa8b191716189d508a31448c47df1f76a7391ffe05c4036088135", func := "packthread/packthreadkeep.NearBack", spec := "nearBack", apart := false }
def NearBackSaid : Prop := nearBackRow.holds Try.pinned (OpenSpec.ofChange nearBackSpec)

/-- ITS FALSE NEIGHBOUR: 'it returns false'. Refute it at one input. -/
def nearBackWrong : ChangeSpec := { name := "nearBack", fn := fun _ => fun
  | [d1, d2] => { results := [.lit (.bool false)], args := [d1, d2] }
  | _ => none }
def NearBackWrongFalsely : Prop := nearBackRow.holds Try.pinned (OpenSpec.ofChange nearBackWrong)

/-- 'packthreadkeep.WithinSplit': WHATEVER THE INPUT: true; the input reads as it did. -/
def withinSplitSpec : ChangeSpec := { name := "withinSplit", fn := fun _ => fun
  | [d1, d2, d3, d4] => { results := [.lit (.bool true)], args := [d1, d2, d3, d4] }
  | _ => none }
def withinSplitRow : OpenClaim := { program := "ytmgjagfjpaofjaa", sum := "e96fd53c720fa8b191716189d508a31448c47df1f76a7391ffe05c4036088135", func := "packthread/packthreadkeep.WithinSplit", spec := "withinSplit", apart := false }
def WithinSplitSaid : Prop := withinSplitRow.holds Try.pinned (OpenSpec.ofChange withinSplitSpec)

/-- ITS FALSE NEIGHBOUR: 'it returns false'. Refute it at one input. -/
def withinSplitWrong : ChangeSpec := { name := "withinSplit", fn := fun _ => fun
  | [d1, d2, d3, d4] => { results := [.lit (.bool false)], args := [d1, d2, d3, d4] }
  | _ => none }
def WithinSplitWrongFalsely : Prop := withinSplitRow.holds Try.pinned (OpenSpec.ofChange withinSplitWrong)

/-- 'packthreadkeep.SerialRound': WHATEVER THE INPUT: true; the input reads as it did. -/
def serialRoundSpec : ChangeSpec := { name := "serialRound", fn := fun _ => fun
  | [d1, d2] => { results := [.lit (.bool true)], args := [d1, d2] }
  | _ => none }
def serialRoundRow : OpenClaim := { program := "ytmgjagfjpaofjaa", sum := "e96fd53c720fa8b191716189d508a31448c47df1f76a7391ffe05c4036088135", func := "packthread/packthreadkeep.SerialRound", spec := "serialRound", apart := false }
def SerialRoundSaid : Prop := serialRoundRow.holds Try.pinned (OpenSpec.ofChange serialRoundSpec)

/-- ITS FALSE NEIGHBOUR: 'it returns false'. Refute it at one input. -/
def serialRoundWrong : ChangeSpec := { name := "serialRound", fn := fun _ => fun
  | [d1, d2] => { results := [.lit (.bool false)], args := [d1, d2] }
  | _ => none }
def SerialRoundWrongFalsely : Prop := serialRoundRow.holds Try.pinned (OpenSpec.ofChange serialRoundWrong)

/- THE SECOND FORM. 'bulk': how many values and letters a reading holds, each counted each time it is reached (what is shared counts as often as it is met; a slice's spare places count too). A statement '..UptoSaid' is the law's where the arguments, and the package variables that the reading takes, are together of bulk at most 1048576: NARROWER than '..Said'. Prove '..Said' where nothing that the law and all that it calls make is longer than what came in: it says more and counts as full. Else prove '..UptoSaid'. A law counts once. -/
mutual
def uptoBulk {H : Type} : DataW H → Nat
  | .lit (.string bytes) => bytes.length + 1
  | .lit _ => 1
  | .nil => 1
  | .ptr d => uptoBulk d + 1
  | .slice elems spare => uptoBulkAll elems + uptoBulkAll spare + 1
  | .agg parts => uptoBulkAll parts + 1
  | .iface _ d => uptoBulk d + 1
  | .map entries => uptoBulkEntries entries + 1
  | .held _ => 1
def uptoBulkAll {H : Type} : List (DataW H) → Nat
  | [] => 0
  | d :: r => uptoBulk d + uptoBulkAll r
def uptoBulkEntries {H : Type} : List (Lit × DataW H) → Nat
  | [] => 0
  | x :: r => uptoBulkEntry x + uptoBulkEntries r
def uptoBulkEntry {H : Type} : Lit × DataW H → Nat
  | (.string bytes, d) => bytes.length + uptoBulk d + 1
  | (_, d) => uptoBulk d + 1
 end
def uptoSmall : (H : Type) → List (DataW H) → Bool := fun _ ds => decide (uptoBulkAll ds ≤ 1048576)
def OpenSpec.upto (s : _root_.Go.ChangeSpec) : _root_.Go.OpenSpec := { _root_.Go.OpenSpec.ofChange s with cond := some uptoSmall }

/-- 'packthreadlaw.SerialAdds', WHERE WHAT IT READS IS OF BULK AT MOST 1048576: true; the input reads as it did. -/
def serialAddsUptoRow : OpenClaim := { program := "ytmgjagfjpaofjaa", sum := "e96fd53c720fa8b191716189d508a31448c47df1f76a7391ffe05c4036088135", func := "packthread/packthreadlaw.SerialAdds", spec := "serialAdds", apart := false, narrowed := true }
def SerialAddsUptoSaid : Prop := serialAddsUptoRow.holds Try.pinned (OpenSpec.upto serialAddsSpec)

/-- 'packthreadlaw.SerialFars', WHERE WHAT IT READS IS OF BULK AT MOST 1048576: true; the input reads as it did. -/
def serialFarsUptoRow : OpenClaim := { program := "ytmgjagfjpaofjaa", sum := "e96fd53c720fa8b191716189d508a31448c47df1f76a7391ffe05c4036088135", func := "packthread/packthreadlaw.SerialFars", spec := "serialFars", apart := false, narrowed := true }
def SerialFarsUptoSaid : Prop := serialFarsUptoRow.holds Try.pinned (OpenSpec.upto serialFarsSpec)

/-- 'packthreadlaw.SerialOrders', WHERE WHAT IT READS IS OF BULK AT MOST 1048576: true; the input reads as it did. -/
def serialOrdersUptoRow : OpenClaim := { program := "ytmgjagfjpaofjaa", sum := "e96fd53c720fa8b191716189d508a31448c47df1f76a7391ffe05c4036088135", func := "packthread/packthreadlaw.SerialOrders", spec := "serialOrders", apart := false, narrowed := true }
def SerialOrdersUptoSaid : Prop := serialOrdersUptoRow.holds Try.pinned (OpenSpec.upto serialOrdersSpec)

/-- 'packthreadlaw.SerialWithins', WHERE WHAT IT READS IS OF BULK AT MOST 1048576: true; the input reads as it did. -/
def serialWithinsUptoRow : OpenClaim := { program := "ytmgjagfjpaofjaa", sum := "e96fd53c720fa8b191716189d508a31448c47df1f76a7391ffe05c4036088135", func := "packthread/packthreadlaw.SerialWithins", spec := "serialWithins", apart := false, narrowed := true }
def SerialWithinsUptoSaid : Prop := serialWithinsUptoRow.holds Try.pinned (OpenSpec.upto serialWithinsSpec)

/-- 'packthreadlaw.SerialNears', WHERE WHAT IT READS IS OF BULK AT MOST 1048576: true; the input reads as it did. -/
def serialNearsUptoRow : OpenClaim := { program := "ytmgjagfjpaofjaa", sum := "e96fd53c720fa8b191716189d508a31448c47df1f76a7391ffe05c4036088135", func := "packthread/packthreadlaw.SerialNears", spec := "serialNears", apart := false, narrowed := true }
def SerialNearsUptoSaid : Prop := serialNearsUptoRow.holds Try.pinned (OpenSpec.upto serialNearsSpec)

/-- 'packthreadkeep.SerialAhead', WHERE WHAT IT READS IS OF BULK AT MOST 1048576: true; the input reads as it did. -/
def serialAheadUptoRow : OpenClaim := { program := "ytmgjagfjpaofjaa", sum := "e96fd53c720fa8b191716189d508a31448c47df1f76a7391ffe05c4036088135", func := "packthread/packthreadkeep.SerialAhead", spec := "serialAhead", apart := false, narrowed := true }
def SerialAheadUptoSaid : Prop := serialAheadUptoRow.holds Try.pinned (OpenSpec.upto serialAheadSpec)

/-- 'packthreadkeep.SerialHalf', WHERE WHAT IT READS IS OF BULK AT MOST 1048576: true; the input reads as it did. -/
def serialHalfUptoRow : OpenClaim := { program := "ytmgjagfjpaofjaa", sum := "e96fd53c720fa8b191716189d508a31448c47df1f76a7391ffe05c4036088135", func := "packthread/packthreadkeep.SerialHalf", spec := "serialHalf", apart := false, narrowed := true }
def SerialHalfUptoSaid : Prop := serialHalfUptoRow.holds Try.pinned (OpenSpec.upto serialHalfSpec)

/-- 'packthreadkeep.NearBack', WHERE WHAT IT READS IS OF BULK AT MOST 1048576: true; the input reads as it did. -/
def nearBackUptoRow : OpenClaim := { program := "ytmgjagfjpaofjaa", sum := "e96fd53c720fa8b191716189d508a31448c47df1f76a7391ffe05c4036088135", func := "packthread/packthreadkeep.NearBack", spec := "nearBack", apart := false, narrowed := true }
def NearBackUptoSaid : Prop := nearBackUptoRow.holds Try.pinned (OpenSpec.upto nearBackSpec)

/-- 'packthreadkeep.WithinSplit', WHERE WHAT IT READS IS OF BULK AT MOST 1048576: true; the input reads as it did. -/
def withinSplitUptoRow : OpenClaim := { program := "ytmgjagfjpaofjaa", sum := "e96fd53c720fa8b191716189d508a31448c47df1f76a7391ffe05c4036088135", func := "packthread/packthreadkeep.WithinSplit", spec := "withinSplit", apart := false, narrowed := true }
def WithinSplitUptoSaid : Prop := withinSplitUptoRow.holds Try.pinned (OpenSpec.upto withinSplitSpec)

/-- 'packthreadkeep.SerialRound', WHERE WHAT IT READS IS OF BULK AT MOST 1048576: true; the input reads as it did. -/
def serialRoundUptoRow : OpenClaim := { program := "ytmgjagfjpaofjaa", sum := "e96fd53c720fa8b191716189d508a31448c47df1f76a7391ffe05c4036088135", func := "packthread/packthreadkeep.SerialRound", spec := "serialRound", apart := false, narrowed := true }
def SerialRoundUptoSaid : Prop := serialRoundUptoRow.holds Try.pinned (OpenSpec.upto serialRoundSpec)

end Rows
end Go.Proofs.Ytmgjagfjpaofjaa
