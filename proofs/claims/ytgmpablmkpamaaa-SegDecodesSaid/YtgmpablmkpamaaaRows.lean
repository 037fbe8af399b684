/-
  No cell of these rows narrows 'for every input' (looked for: loops, veiled, ifaces, maps, wideKeys, modest, calm, conditions, laid).
  DERIVED. THE GIVEN ROWS OF THIS SEAT. 6 by the template 'for every input the law returns true; each argument reads behind the call as it read before'; 0 by the template 'total and deterministic' (their statements: YtgmpablmkpamaaaTotals.lean).
  GIVEN WITH THE SEED: the statements are not yours to turn. If you find one false, say at which input.
  Laid BY PROGRAM, IN A SANDBOX (cutbox-rows.mjs): the forced cells as the released guide's own fill.sh prints them over the translation 96d4cd905aa2dc78… (all of the seat's roots in one cut). By AI agents, Wed Nov 11 2026. No macro, syntax, notation, axiom, sorry.
-/
import Derived.Test.YtgmpablmkpamaaaChecked
import GoSem.Claim
import GoSem.ClaimJoined
import GoSem.ClaimMapViews
import Derived.JoinedTies
import Derived.KernelRfl
namespace Go.Proofs.Ytgmpablmkpamaaa
/- THE CELL 'sum', in the pinned program and in every row, IS THE sha256 OF THE DUMP (.gsa) THAT YtgmpablmkpamaaaProg.lean LOADS. Nothing in Lean hashes anything: it is a label: what it is worth is what the hold of that sum in a sandbox is worth. -/
noncomputable def Try.pinned : Pinned := { name := "ytgmpablmkpamaaa", sum := "96d4cd905aa2dc78fa800b7854529a1f0208d77a5b0fd7554c13903cdad2fe82", checked := Try.checked }
namespace Rows
def none {H : Type} : Left H := { results := [], args := [] }

/-- 'packthreadlaw.SegEncodes': WHATEVER THE INPUT: true; the input reads as it did. -/
def segEncodesSpec : ChangeSpec := { name := "segEncodes", fn := fun _ => fun
  | [d] => { results := [.lit (.bool true)], args := [d] }
  | _ => none }
def segEncodesRow : OpenClaim := { program := "ytgmpablmkpamaaa", sum := "96d4cd905aa2dc78fa800b7854529a1f0208d77a5b0fd7554c13903cdad2fe82", func := "packthread/packthreadlaw.SegEncodes", spec := "segEncodes", unfollowed := true, recurses := true, apart := false }
def SegEncodesSaid : Prop := segEncodesRow.holds Try.pinned (OpenSpec.ofChange segEncodesSpec)

/-- ITS FALSE NEIGHBOUR: 'it returns false'. Refute it at one input. -/
def segEncodesWrong : ChangeSpec := { name := "segEncodes", fn := fun _ => fun
  | [d] => { results := [.lit (.bool false)], args := [d] }
  | _ => none }
def SegEncodesWrongFalsely : Prop := segEncodesRow.holds Try.pinned (OpenSpec.ofChange segEncodesWrong)

/-- 'packthreadlaw.SegDecodes': WHATEVER THE INPUT: true; the input reads as it did. -/
def segDecodesSpec : ChangeSpec := { name := "segDecodes", fn := fun _ => fun
  | [d] => { results := [.lit (.bool true)], args := [d] }
  | _ => none }
def segDecodesRow : OpenClaim := { program := "ytgmpablmkpamaaa", sum := "96d4cd905aa2dc78fa800b7854529a1f0208d77a5b0fd7554c13903cdad2fe82", func := "packthread/packthreadlaw.SegDecodes", spec := "segDecodes", unfollowed := true, recurses := true, apart := false }
def SegDecodesSaid : Prop := segDecodesRow.holds Try.pinned (OpenSpec.ofChange segDecodesSpec)

/-- ITS FALSE NEIGHBOUR: 'it returns false'. Refute it at one input. -/
def segDecodesWrong : ChangeSpec := { name := "segDecodes", fn := fun _ => fun
  | [d] => { results := [.lit (.bool false)], args := [d] }
  | _ => none }
def SegDecodesWrongFalsely : Prop := segDecodesRow.holds Try.pinned (OpenSpec.ofChange segDecodesWrong)

/-- 'packthreadkeep.SegBack': WHATEVER THE INPUT: true; the input reads as it did. -/
def segBackSpec : ChangeSpec := { name := "segBack", fn := fun _ => fun
  | [d1, d2, d3, d4, d5, d6] => { results := [.lit (.bool true)], args := [d1, d2, d3, d4, d5, d6] }
  | _ => none }
def segBackRow : OpenClaim := { program := "ytgmpablmkpamaaa", sum := "96d4cd905aa2dc78fa800b7854529a1f0208d77a5b0fd7554c13903cdad2fe82", func := "packthread/packthreadkeep.SegBack", spec := "segBack", unfollowed := true, recurses := true, apart := false }
def SegBackSaid : Prop := segBackRow.holds Try.pinned (OpenSpec.ofChange segBackSpec)

/-- ITS FALSE NEIGHBOUR: 'it returns false'. Refute it at one input. -/
def segBackWrong : ChangeSpec := { name := "segBack", fn := fun _ => fun
  | [d1, d2, d3, d4, d5, d6] => { results := [.lit (.bool false)], args := [d1, d2, d3, d4, d5, d6] }
  | _ => none }
def SegBackWrongFalsely : Prop := segBackRow.holds Try.pinned (OpenSpec.ofChange segBackWrong)

/-- 'packthreadkeep.SegSees': WHATEVER THE INPUT: true; the input reads as it did. -/
def segSeesSpec : ChangeSpec := { name := "segSees", fn := fun _ => fun
  | [d1, d2, d3, d4, d5, d6, d7, d8] => { results := [.lit (.bool true)], args := [d1, d2, d3, d4, d5, d6, d7, d8] }
  | _ => none }
def segSeesRow : OpenClaim := { program := "ytgmpablmkpamaaa", sum := "96d4cd905aa2dc78fa800b7854529a1f0208d77a5b0fd7554c13903cdad2fe82", func := "packthread/packthreadkeep.SegSees", spec := "segSees", unfollowed := true, recurses := true, apart := false }
def SegSeesSaid : Prop := segSeesRow.holds Try.pinned (OpenSpec.ofChange segSeesSpec)

/-- ITS FALSE NEIGHBOUR: 'it returns false'. Refute it at one input. -/
def segSeesWrong : ChangeSpec := { name := "segSees", fn := fun _ => fun
  | [d1, d2, d3, d4, d5, d6, d7, d8] => { results := [.lit (.bool false)], args := [d1, d2, d3, d4, d5, d6, d7, d8] }
  | _ => none }
def SegSeesWrongFalsely : Prop := segSeesRow.holds Try.pinned (OpenSpec.ofChange segSeesWrong)

/-- 'packthreadkeep.SegFixed': WHATEVER THE INPUT: true; the input reads as it did. -/
def segFixedSpec : ChangeSpec := { name := "segFixed", fn := fun _ => fun
  | [d] => { results := [.lit (.bool true)], args := [d] }
  | _ => none }
def segFixedRow : OpenClaim := { program := "ytgmpablmkpamaaa", sum := "96d4cd905aa2dc78fa800b7854529a1f0208d77a5b0fd7554c13903cdad2fe82", func := "packthread/packthreadkeep.SegFixed", spec := "segFixed", unfollowed := true, recurses := true, apart := false }
def SegFixedSaid : Prop := segFixedRow.holds Try.pinned (OpenSpec.ofChange segFixedSpec)

/-- ITS FALSE NEIGHBOUR: 'it returns false'. Refute it at one input. -/
def segFixedWrong : ChangeSpec := { name := "segFixed", fn := fun _ => fun
  | [d] => { results := [.lit (.bool false)], args := [d] }
  | _ => none }
def SegFixedWrongFalsely : Prop := segFixedRow.holds Try.pinned (OpenSpec.ofChange segFixedWrong)

/-- 'packthreadtop.TopSealed': WHATEVER THE INPUT: true; the input reads as it did. -/
def topSealedSpec : ChangeSpec := { name := "topSealed", fn := fun _ => fun
  | [d1, d2, d3, d4, d5] => { results := [.lit (.bool true)], args := [d1, d2, d3, d4, d5] }
  | _ => none }
def topSealedRow : OpenClaim := { program := "ytgmpablmkpamaaa", sum := "96d4cd905aa2dc78fa800b7854529a1f0208d77a5b0fd7554c13903cdad2fe82", func := "packthread/packthreadtop.TopSealed", spec := "topSealed", unfollowed := true, recurses := true, apart := false }
def TopSealedSaid : Prop := topSealedRow.holds Try.pinned (OpenSpec.ofChange topSealedSpec)

/-- ITS FALSE NEIGHBOUR: 'it returns false'. Refute it at one input. -/
def topSealedWrong : ChangeSpec := { name := "topSealed", fn := fun _ => fun
  | [d1, d2, d3, d4, d5] => { results := [.lit (.bool false)], args := [d1, d2, d3, d4, d5] }
  | _ => none }
def TopSealedWrongFalsely : Prop := topSealedRow.holds Try.pinned (OpenSpec.ofChange topSealedWrong)

/- THE SECOND FORM. 'bulk': how many values and letters a reading holds, each counted each time it is reached (what is shared counts as often as it is met; a slice's spare places count too). A statement '..UptoSaid' is the law's where the arguments, and the package variables that the reading takes, are together of bulk at most 1048576: NARROWER than '..Said'. Prove '..Said' where nothing that the law and all that it calls make is longer than what came in: it says more and counts as full. Else prove '..UptoSaid'. A law counts once. -/
mutual
def uptoBulk {H : Type} : DataW H → Nat
  | .lit (.string bytes) => bytes.length + 1
  | .lit _ => 1
  | .nil => 1
  | .ptr d => uptoBulk d + 1
  | .slice elems spare => uptoBulkAll elems + uptoBulkAll spare + 1
  | .agg parts => uptoBulkAll parts + 1
  | .iface _ d => uptoBulk d + 1
  | .map entries => uptoBulkEntries entries + 1
  | .held _ => 1
def uptoBulkAll {H : Type} : List (DataW H) → Nat
  | [] => 0
  | d :: r => uptoBulk d + uptoBulkAll r
def uptoBulkEntries {H : Type} : List (Lit × DataW H) → Nat
  | [] => 0
  | x :: r => uptoBulkEntry x + uptoBulkEntries r
def uptoBulkEntry {H : Type} : Lit × DataW H → Nat
  | (.string bytes, d) => bytes.length + uptoBulk d + 1
  | (_, d) => uptoBulk d + 1
 end
def uptoSmall : (H : Type) → List (DataW H) → Bool := fun _ ds => decide (uptoBulkAll ds ≤ 1048576)
def OpenSpec.upto (s : _root_.Go.ChangeSpec) : _root_.Go.OpenSpec := { _root_.Go.OpenSpec.ofChange s with cond := some uptoSmall }

/-- 'packthreadlaw.SegEncodes', WHERE WHAT IT READS IS OF BULK AT MOST 1048576: true; the input reads as it did. -/
def segEncodesUptoRow : OpenClaim := { program := "ytgmpablmkpamaaa", sum := "96d4cd905aa2dc78fa800b7854529a1f0208d77a5b0fd7554c13903cdad2fe82", func := "packthread/packthreadlaw.SegEncodes", spec := "segEncodes", unfollowed := true, recurses := true, apart := false, narrowed := true }
def SegEncodesUptoSaid : Prop := segEncodesUptoRow.holds Try.pinned (OpenSpec.upto segEncodesSpec)

/-- 'packthreadlaw.SegDecodes', WHERE WHAT IT READS IS OF BULK AT MOST 1048576: true; the input reads as it did. -/
def segDecodesUptoRow : OpenClaim := { program := "ytgmpablmkpamaaa", sum := "96d4cd905aa2dc78fa800b7854529a1f0208d77a5b0fd7554c13903cdad2fe82", func := "packthread/packthreadlaw.SegDecodes", spec := "segDecodes", unfollowed := true, recurses := true, apart := false, narrowed := true }
def SegDecodesUptoSaid : Prop := segDecodesUptoRow.holds Try.pinned (OpenSpec.upto segDecodesSpec)

/-- 'packthreadkeep.SegBack', WHERE WHAT IT READS IS OF BULK AT MOST 1048576: true; the input reads as it did. -/
def segBackUptoRow : OpenClaim := { program := "ytgmpablmkpamaaa", sum := "96d4cd905aa2dc78fa800b7854529a1f0208d77a5b0fd7554c13903cdad2fe82", func := "packthread/packthreadkeep.SegBack", spec := "segBack", unfollowed := true, recurses := true, apart := false, narrowed := true }
def SegBackUptoSaid : Prop := segBackUptoRow.holds Try.pinned (OpenSpec.upto segBackSpec)

/-- 'packthreadkeep.SegSees', WHERE WHAT IT READS IS OF BULK AT MOST 1048576: true; the input reads as it did. -/
def segSeesUptoRow : OpenClaim := { program := "ytgmpablmkpamaaa", sum := "96d4cd905aa2dc78fa800b7854529a1f0208d77a5b0fd7554c13903cdad2fe82", func := "packthread/packthreadkeep.SegSees", spec := "segSees", unfollowed := true, recurses := true, apart := false, narrowed := true }
def SegSeesUptoSaid : Prop := segSeesUptoRow.holds Try.pinned (OpenSpec.upto segSeesSpec)

/-- 'packthreadkeep.SegFixed', WHERE WHAT IT READS IS OF BULK AT MOST 1048576: true; the input reads as it did. -/
def segFixedUptoRow : OpenClaim := { program := "ytgmpablmkpamaaa", sum := "96d4cd905aa2dc78fa800b7854529a1f0208d77a5b0fd7554c13903cdad2fe82", func := "packthread/packthreadkeep.SegFixed", spec := "segFixed", unfollowed := true, recurses := true, apart := false, narrowed := true }
def SegFixedUptoSaid : Prop := segFixedUptoRow.holds Try.pinned (OpenSpec.upto segFixedSpec)

/-- 'packthreadtop.TopSealed', WHERE WHAT IT READS IS OF BULK AT MOST 1048576: true; the input reads as it did. -/
def topSealedUptoRow : OpenClaim := { program := "ytgmpablmkpamaaa", sum := "96d4cd905aa2dc78fa800b7854529a1f0208d77a5b0fd7554c13903cdad2fe82", func := "packthread/packthreadtop.TopSealed", spec := "topSealed", unfollowed := true, recurses := true, apart := false, narrowed := true }
def TopSealedUptoSaid : Prop := topSealedUptoRow.holds Try.pinned (OpenSpec.upto topSealedSpec)

end Rows
end Go.Proofs.Ytgmpablmkpamaaa
