/-
  No cell of these rows narrows 'for every input' (looked for: loops, veiled, ifaces, maps, wideKeys, modest, calm, conditions, laid).
  DERIVED. THE GIVEN ROWS OF THIS SEAT. 7 by the template 'for every input the law returns true; each argument reads behind the call as it read before'; 0 by the template 'total and deterministic' (their statements: YtelfnlocgknpjaaTotals.lean).
  GIVEN WITH THE SEED: the statements are not yours to turn. If you find one false, say at which input.
  Laid BY PROGRAM, IN A SANDBOX (cutbox-rows.mjs): the forced cells as the released guide's own fill.sh prints them over the translation aa2f33a2c1560bb3… (all of the seat's roots in one cut). By AI agents, Wed Nov 11 2026. No macro, syntax, notation, axiom, sorry.
-/
import Derived.Test.YtelfnlocgknpjaaChecked
import GoSem.Claim
import GoSem.ClaimJoined
import GoSem.ClaimMapViews
import Derived.JoinedTies
import Derived.KernelRfl
namespace Go.Proofs.Ytelfnlocgknpjaa
/- THE CELL 'sum', in the pinned program and in every row, IS THE sha256 OF THE DUMP (.gsa) THAT YtelfnlocgknpjaaProg.lean LOADS. Nothing in Lean hashes anything: it is a label: what it is worth is what the hold of that sum in a sandbox is worth. -/
noncomputable def Try.pinned : Pinned := { name := "ytelfnlocgknpjaa", sum := "aa2f33a2c1560bb32d29fd092cd20041cbe0ed40f05629dc25231e45147a13a0", checked := Try.checked }
namespace Rows
def none {H : Type} : Left H := { results := [], args := [] }

/-- 'packthreadlaw.MsgAsks': WHATEVER THE INPUT: true; the input reads as it did. -/
def msgAsksSpec : ChangeSpec := { name := "msgAsks", fn := fun _ => fun
  | [d] => { results := [.lit (.bool true)], args := [d] }
  | _ => none }
def msgAsksRow : OpenClaim := { program := "ytelfnlocgknpjaa", sum := "aa2f33a2c1560bb32d29fd092cd20041cbe0ed40f05629dc25231e45147a13a0", func := "packthread/packthreadlaw.MsgAsks", spec := "msgAsks", unfollowed := true, recurses := true, apart := false }
def MsgAsksSaid : Prop := msgAsksRow.holds Try.pinned (OpenSpec.ofChange msgAsksSpec)

/-- ITS FALSE NEIGHBOUR: 'it returns false'. Refute it at one input. -/
def msgAsksWrong : ChangeSpec := { name := "msgAsks", fn := fun _ => fun
  | [d] => { results := [.lit (.bool false)], args := [d] }
  | _ => none }
def MsgAsksWrongFalsely : Prop := msgAsksRow.holds Try.pinned (OpenSpec.ofChange msgAsksWrong)

/-- 'packthreadlaw.MsgAskeds': WHATEVER THE INPUT: true; the input reads as it did. -/
def msgAskedsSpec : ChangeSpec := { name := "msgAskeds", fn := fun _ => fun
  | [d] => { results := [.lit (.bool true)], args := [d] }
  | _ => none }
def msgAskedsRow : OpenClaim := { program := "ytelfnlocgknpjaa", sum := "aa2f33a2c1560bb32d29fd092cd20041cbe0ed40f05629dc25231e45147a13a0", func := "packthread/packthreadlaw.MsgAskeds", spec := "msgAskeds", unfollowed := true, recurses := true, apart := false }
def MsgAskedsSaid : Prop := msgAskedsRow.holds Try.pinned (OpenSpec.ofChange msgAskedsSpec)

/-- ITS FALSE NEIGHBOUR: 'it returns false'. Refute it at one input. -/
def msgAskedsWrong : ChangeSpec := { name := "msgAskeds", fn := fun _ => fun
  | [d] => { results := [.lit (.bool false)], args := [d] }
  | _ => none }
def MsgAskedsWrongFalsely : Prop := msgAskedsRow.holds Try.pinned (OpenSpec.ofChange msgAskedsWrong)

/-- 'packthreadlaw.MsgAnswers': WHATEVER THE INPUT: true; the input reads as it did. -/
def msgAnswersSpec : ChangeSpec := { name := "msgAnswers", fn := fun _ => fun
  | [d] => { results := [.lit (.bool true)], args := [d] }
  | _ => none }
def msgAnswersRow : OpenClaim := { program := "ytelfnlocgknpjaa", sum := "aa2f33a2c1560bb32d29fd092cd20041cbe0ed40f05629dc25231e45147a13a0", func := "packthread/packthreadlaw.MsgAnswers", spec := "msgAnswers", inPlace := ["internal/bytealg.IndexByteString", "internal/bytealg.IndexString", "internal/abi.NoEscape", "internal/bytealg.MakeNoZero"], unfollowed := true, recurses := true, named := ["internal/bytealg.MaxLen"], apart := false }
def MsgAnswersSaid : Prop := msgAnswersRow.holds Try.pinned (OpenSpec.ofChange msgAnswersSpec)

/-- ITS FALSE NEIGHBOUR: 'it returns false'. Refute it at one input. -/
def msgAnswersWrong : ChangeSpec := { name := "msgAnswers", fn := fun _ => fun
  | [d] => { results := [.lit (.bool false)], args := [d] }
  | _ => none }
def MsgAnswersWrongFalsely : Prop := msgAnswersRow.holds Try.pinned (OpenSpec.ofChange msgAnswersWrong)

/-- 'packthreadlaw.MsgAnswereds': WHATEVER THE INPUT: true; the input reads as it did. -/
def msgAnsweredsSpec : ChangeSpec := { name := "msgAnswereds", fn := fun _ => fun
  | [d] => { results := [.lit (.bool true)], args := [d] }
  | _ => none }
def msgAnsweredsRow : OpenClaim := { program := "ytelfnlocgknpjaa", sum := "aa2f33a2c1560bb32d29fd092cd20041cbe0ed40f05629dc25231e45147a13a0", func := "packthread/packthreadlaw.MsgAnswereds", spec := "msgAnswereds", inPlace := ["internal/bytealg.IndexByteString", "internal/bytealg.IndexString", "internal/abi.NoEscape", "internal/bytealg.MakeNoZero"], unfollowed := true, recurses := true, named := ["internal/bytealg.MaxLen"], apart := false }
def MsgAnsweredsSaid : Prop := msgAnsweredsRow.holds Try.pinned (OpenSpec.ofChange msgAnsweredsSpec)

/-- ITS FALSE NEIGHBOUR: 'it returns false'. Refute it at one input. -/
def msgAnsweredsWrong : ChangeSpec := { name := "msgAnswereds", fn := fun _ => fun
  | [d] => { results := [.lit (.bool false)], args := [d] }
  | _ => none }
def MsgAnsweredsWrongFalsely : Prop := msgAnsweredsRow.holds Try.pinned (OpenSpec.ofChange msgAnsweredsWrong)

/-- 'packthreadkeep.AskBack': WHATEVER THE INPUT: true; the input reads as it did. -/
def askBackSpec : ChangeSpec := { name := "askBack", fn := fun _ => fun
  | [d1, d2, d3, d4, d5, d6, d7] => { results := [.lit (.bool true)], args := [d1, d2, d3, d4, d5, d6, d7] }
  | _ => none }
def askBackRow : OpenClaim := { program := "ytelfnlocgknpjaa", sum := "aa2f33a2c1560bb32d29fd092cd20041cbe0ed40f05629dc25231e45147a13a0", func := "packthread/packthreadkeep.AskBack", spec := "askBack", unfollowed := true, recurses := true, apart := false }
def AskBackSaid : Prop := askBackRow.holds Try.pinned (OpenSpec.ofChange askBackSpec)

/-- ITS FALSE NEIGHBOUR: 'it returns false'. Refute it at one input. -/
def askBackWrong : ChangeSpec := { name := "askBack", fn := fun _ => fun
  | [d1, d2, d3, d4, d5, d6, d7] => { results := [.lit (.bool false)], args := [d1, d2, d3, d4, d5, d6, d7] }
  | _ => none }
def AskBackWrongFalsely : Prop := askBackRow.holds Try.pinned (OpenSpec.ofChange askBackWrong)

/-- 'packthreadkeep.AskFixed': WHATEVER THE INPUT: true; the input reads as it did. -/
def askFixedSpec : ChangeSpec := { name := "askFixed", fn := fun _ => fun
  | [d] => { results := [.lit (.bool true)], args := [d] }
  | _ => none }
def askFixedRow : OpenClaim := { program := "ytelfnlocgknpjaa", sum := "aa2f33a2c1560bb32d29fd092cd20041cbe0ed40f05629dc25231e45147a13a0", func := "packthread/packthreadkeep.AskFixed", spec := "askFixed", unfollowed := true, recurses := true, apart := false }
def AskFixedSaid : Prop := askFixedRow.holds Try.pinned (OpenSpec.ofChange askFixedSpec)

/-- ITS FALSE NEIGHBOUR: 'it returns false'. Refute it at one input. -/
def askFixedWrong : ChangeSpec := { name := "askFixed", fn := fun _ => fun
  | [d] => { results := [.lit (.bool false)], args := [d] }
  | _ => none }
def AskFixedWrongFalsely : Prop := askFixedRow.holds Try.pinned (OpenSpec.ofChange askFixedWrong)

/-- 'packthreadkeep.AnswerBack': WHATEVER THE INPUT: true; the input reads as it did. -/
def answerBackSpec : ChangeSpec := { name := "answerBack", fn := fun _ => fun
  | [d1, d2, d3, d4, d5, d6] => { results := [.lit (.bool true)], args := [d1, d2, d3, d4, d5, d6] }
  | _ => none }
def answerBackRow : OpenClaim := { program := "ytelfnlocgknpjaa", sum := "aa2f33a2c1560bb32d29fd092cd20041cbe0ed40f05629dc25231e45147a13a0", func := "packthread/packthreadkeep.AnswerBack", spec := "answerBack", inPlace := ["internal/bytealg.IndexByteString", "internal/bytealg.IndexString", "internal/abi.NoEscape", "internal/bytealg.MakeNoZero"], unfollowed := true, recurses := true, named := ["internal/bytealg.MaxLen"], apart := false }
def AnswerBackSaid : Prop := answerBackRow.holds Try.pinned (OpenSpec.ofChange answerBackSpec)

/-- ITS FALSE NEIGHBOUR: 'it returns false'. Refute it at one input. -/
def answerBackWrong : ChangeSpec := { name := "answerBack", fn := fun _ => fun
  | [d1, d2, d3, d4, d5, d6] => { results := [.lit (.bool false)], args := [d1, d2, d3, d4, d5, d6] }
  | _ => none }
def AnswerBackWrongFalsely : Prop := answerBackRow.holds Try.pinned (OpenSpec.ofChange answerBackWrong)

/- THE SECOND FORM. 'bulk': how many values and letters a reading holds, each counted each time it is reached (what is shared counts as often as it is met; a slice's spare places count too). A statement '..UptoSaid' is the law's where the arguments, and the package variables that the reading takes, are together of bulk at most 1048576: NARROWER than '..Said'. Prove '..Said' where nothing that the law and all that it calls make is longer than what came in: it says more and counts as full. Else prove '..UptoSaid'. A law counts once. -/
mutual
def uptoBulk {H : Type} : DataW H → Nat
  | .lit (.string bytes) => bytes.length + 1
  | .lit _ => 1
  | .nil => 1
  | .ptr d => uptoBulk d + 1
  | .slice elems spare => uptoBulkAll elems + uptoBulkAll spare + 1
  | .agg parts => uptoBulkAll parts + 1
  | .iface _ d => uptoBulk d + 1
  | .map entries => uptoBulkEntries entries + 1
  | .held _ => 1
def uptoBulkAll {H : Type} : List (DataW H) → Nat
  | [] => 0
  | d :: r => uptoBulk d + uptoBulkAll r
def uptoBulkEntries {H : Type} : List (Lit × DataW H) → Nat
  | [] => 0
  | x :: r => uptoBulkEntry x + uptoBulkEntries r
def uptoBulkEntry {H : Type} : Lit × DataW H → Nat
  | (.string bytes, d) => bytes.length + uptoBulk d + 1
  | (_, d) => uptoBulk d + 1
 end
def uptoSmall : (H : Type) → List (DataW H) → Bool := fun _ ds => decide (uptoBulkAll ds ≤ 1048576)
def OpenSpec.upto (s : _root_.Go.ChangeSpec) : _root_.Go.OpenSpec := { _root_.Go.OpenSpec.ofChange s with cond := some uptoSmall }

/-- 'packthreadlaw.MsgAsks', WHERE WHAT IT READS IS OF BULK AT MOST 1048576: true; the input reads as it did. -/
def msgAsksUptoRow : OpenClaim := { program := "ytelfnlocgknpjaa", sum := "aa2f33a2c1560bb32d29fd092cd20041cbe0ed40f05629dc25231e45147a13a0", func := "packthread/packthreadlaw.MsgAsks", spec := "msgAsks", unfollowed := true, recurses := true, apart := false, narrowed := true }
def MsgAsksUptoSaid : Prop := msgAsksUptoRow.holds Try.pinned (OpenSpec.upto msgAsksSpec)

/-- 'packthreadlaw.MsgAskeds', WHERE WHAT IT READS IS OF BULK AT MOST 1048576: true; the input reads as it did. -/
def msgAskedsUptoRow : OpenClaim := { program := "ytelfnlocgknpjaa", sum := "aa2f33a2c1560bb32d29fd092cd20041cbe0ed40f05629dc25231e45147a13a0", func := "packthread/packthreadlaw.MsgAskeds", spec := "msgAskeds", unfollowed := true, recurses := true, apart := false, narrowed := true }
def MsgAskedsUptoSaid : Prop := msgAskedsUptoRow.holds Try.pinned (OpenSpec.upto msgAskedsSpec)

/-- 'packthreadlaw.MsgAnswers', WHERE WHAT IT READS IS OF BULK AT MOST 1048576: true; the input reads as it did. -/
def msgAnswersUptoRow : OpenClaim := { program := "ytelfnlocgknpjaa", sum := "aa2f33a2c1560bb32d29fd092cd20041cbe0ed40f05629dc25231e45147a13a0", func := "packthread/packthreadlaw.MsgAnswers", spec := "msgAnswers", inPlace := ["internal/bytealg.IndexByteString", "internal/bytealg.IndexString", "internal/abi.NoEscape", "internal/bytealg.MakeNoZero"], unfollowed := true, recurses := true, named := ["internal/bytealg.MaxLen"], apart := false, narrowed := true }
def MsgAnswersUptoSaid : Prop := msgAnswersUptoRow.holds Try.pinned (OpenSpec.upto msgAnswersSpec)

/-- 'packthreadlaw.MsgAnswereds', WHERE WHAT IT READS IS OF BULK AT MOST 1048576: true; the input reads as it did. -/
def msgAnsweredsUptoRow : OpenClaim := { program := "ytelfnlocgknpjaa", sum := "aa2f33a2c1560bb32d29fd092cd20041cbe0ed40f05629dc25231e45147a13a0", func := "packthread/packthreadlaw.MsgAnswereds", spec := "msgAnswereds", inPlace := ["internal/bytealg.IndexByteString", "internal/bytealg.IndexString", "internal/abi.NoEscape", "internal/bytealg.MakeNoZero"], unfollowed := true, recurses := true, named := ["internal/bytealg.MaxLen"], apart := false, narrowed := true }
def MsgAnsweredsUptoSaid : Prop := msgAnsweredsUptoRow.holds Try.pinned (OpenSpec.upto msgAnsweredsSpec)

/-- 'packthreadkeep.AskBack', WHERE WHAT IT READS IS OF BULK AT MOST 1048576: true; the input reads as it did. -/
def askBackUptoRow : OpenClaim := { program := "ytelfnlocgknpjaa", sum := "aa2f33a2c1560bb32d29fd092cd20041cbe0ed40f05629dc25231e45147a13a0", func := "packthread/packthreadkeep.AskBack", spec := "askBack", unfollowed := true, recurses := true, apart := false, narrowed := true }
def AskBackUptoSaid : Prop := askBackUptoRow.holds Try.pinned (OpenSpec.upto askBackSpec)

/-- 'packthreadkeep.AskFixed', WHERE WHAT IT READS IS OF BULK AT MOST 1048576: true; the input reads as it did. -/
def askFixedUptoRow : OpenClaim := { program := "ytelfnlocgknpjaa", sum := "aa2f33a2c1560bb32d29fd092cd20041cbe0ed40f05629dc25231e45147a13a0", func := "packthread/packthreadkeep.AskFixed", spec := "askFixed", unfollowed := true, recurses := true, apart := false, narrowed := true }
def AskFixedUptoSaid : Prop := askFixedUptoRow.holds Try.pinned (OpenSpec.upto askFixedSpec)

/-- 'packthreadkeep.AnswerBack', WHERE WHAT IT READS IS OF BULK AT MOST 1048576: true; the input reads as it did. -/
def answerBackUptoRow : OpenClaim := { program := "ytelfnlocgknpjaa", sum := "aa2f33a2c1560bb32d29fd092cd20041cbe0ed40f05629dc25231e45147a13a0", func := "packthread/packthreadkeep.AnswerBack", spec := "answerBack", inPlace := ["internal/bytealg.IndexByteString", "internal/bytealg.IndexString", "internal/abi.NoEscape", "internal/bytealg.MakeNoZero"], unfollowed := true, recurses := true, named := ["internal/bytealg.MaxLen"], apart := false, narrowed := true }
def AnswerBackUptoSaid : Prop := answerBackUptoRow.holds Try.pinned (OpenSpec.upto answerBackSpec)

end Rows
end Go.Proofs.Ytelfnlocgknpjaa
