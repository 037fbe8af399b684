/-
  No cell of these rows narrows 'for every input' (looked for: loops, veiled, ifaces, maps, wideKeys, modest, calm, conditions, laid).
  DERIVED. THE GIVEN ROWS OF THIS SEAT. 14 by the template 'for every input the law returns true; each argument reads behind the call as it read before'; 0 by the template 'total and deterministic' (their statements: YtehckiihipnimaaTotals.lean).
  GIVEN WITH THE SEED: the statements are not yours to turn. If you find one false, say at which input.
  Laid BY PROGRAM, IN A SANDBOX (cutbox-rows.mjs): the forced cells as the released guide's own fill.sh prints them over the translation efd31382fa13430b… (all of the seat's roots in one cut). By AI agents, Wed Nov 11 2026. No macro, syntax, notation, axiom, sorry.
-/
import Derived.Test.YtehckiihipnimaaChecked
import GoSem.Claim
import GoSem.ClaimJoined
import GoSem.ClaimMapViews
import Derived.JoinedTies
import Derived.KernelRfl
namespace Go.Proofs.Ytehckiihipnimaa
/- THE CELL 'sum', in the pinned program and in every row, IS THE sha256 OF THE DUMP (.gsa) THAT YtehckiihipnimaaProg.lean LOADS. Nothing in Lean hashes anything: it is a label: what it is worth is what the hold of that sum in a sandbox is worth. -/
noncomputable def Try.pinned : Pinned := { name := "ytehckiihipnimaa", sum := "efd31382fa13430b5bbf9f4087ee76581b2e02bde9df3efa870cf92686e2aa06", checked := Try.checked }
namespace Rows
def none {H : Type} : Left H := { results := [], args := [] }

/-- 'packthreadlaw.SendPlays': WHATEVER THE INPUT: true; the input reads as it did. -/
def sendPlaysSpec : ChangeSpec := { name := "sendPlays", fn := fun _ => fun
  | [d1, d2] => { results := [.lit (.bool true)], args := [d1, d2] }
  | _ => none }
def sendPlaysRow : OpenClaim := { program := "ytehckiihipnimaa", sum := "efd31382fa13430b5bbf9f4087ee76581b2e02bde9df3efa870cf92686e2aa06", func := "packthread/packthreadlaw.SendPlays", spec := "sendPlays", unfollowed := true, recurses := true, apart := false }
def SendPlaysSaid : Prop := sendPlaysRow.holds Try.pinned (OpenSpec.ofChange sendPlaysSpec)

/-- ITS FALSE NEIGHBOUR: 'it returns false'. Refute it at one input. -/
def sendPlaysWrong : ChangeSpec := { name := "sendPlays", fn := fun _ => fun
  | [d1, d2] => { results := [.lit (.bool false)], args := [d1, d2] }
  | _ => none }
def SendPlaysWrongFalsely : Prop := sendPlaysRow.holds Try.pinned (OpenSpec.ofChange sendPlaysWrong)

/-- 'packthreadkeep.SendTrue': WHATEVER THE INPUT: true; the input reads as it did. -/
def sendTrueSpec : ChangeSpec := { name := "sendTrue", fn := fun _ => fun
  | [d1, d2] => { results := [.lit (.bool true)], args := [d1, d2] }
  | _ => none }
def sendTrueRow : OpenClaim := { program := "ytehckiihipnimaa", sum := "efd31382fa13430b5bbf9f4087ee76581b2e02bde9df3efa870cf92686e2aa06", func := "packthread/packthreadkeep.SendTrue", spec := "sendTrue", unfollowed := true, recurses := true, apart := false }
def SendTrueSaid : Prop := sendTrueRow.holds Try.pinned (OpenSpec.ofChange sendTrueSpec)

/-- ITS FALSE NEIGHBOUR: 'it returns false'. Refute it at one input. -/
def sendTrueWrong : ChangeSpec := { name := "sendTrue", fn := fun _ => fun
  | [d1, d2] => { results := [.lit (.bool false)], args := [d1, d2] }
  | _ => none }
def SendTrueWrongFalsely : Prop := sendTrueRow.holds Try.pinned (OpenSpec.ofChange sendTrueWrong)

/-- 'packthreadkeep.SendAll': WHATEVER THE INPUT: true; the input reads as it did. -/
def sendAllSpec : ChangeSpec := { name := "sendAll", fn := fun _ => fun
  | [d1, d2] => { results := [.lit (.bool true)], args := [d1, d2] }
  | _ => none }
def sendAllRow : OpenClaim := { program := "ytehckiihipnimaa", sum := "efd31382fa13430b5bbf9f4087ee76581b2e02bde9df3efa870cf92686e2aa06", func := "packthread/packthreadkeep.SendAll", spec := "sendAll", unfollowed := true, recurses := true, apart := false }
def SendAllSaid : Prop := sendAllRow.holds Try.pinned (OpenSpec.ofChange sendAllSpec)

/-- ITS FALSE NEIGHBOUR: 'it returns false'. Refute it at one input. -/
def sendAllWrong : ChangeSpec := { name := "sendAll", fn := fun _ => fun
  | [d1, d2] => { results := [.lit (.bool false)], args := [d1, d2] }
  | _ => none }
def SendAllWrongFalsely : Prop := sendAllRow.holds Try.pinned (OpenSpec.ofChange sendAllWrong)

/-- 'packthreadkeep.SendHeard': WHATEVER THE INPUT: true; the input reads as it did. -/
def sendHeardSpec : ChangeSpec := { name := "sendHeard", fn := fun _ => fun
  | [d1, d2, d3, d4] => { results := [.lit (.bool true)], args := [d1, d2, d3, d4] }
  | _ => none }
def sendHeardRow : OpenClaim := { program := "ytehckiihipnimaa", sum := "efd31382fa13430b5bbf9f4087ee76581b2e02bde9df3efa870cf92686e2aa06", func := "packthread/packthreadkeep.SendHeard", spec := "sendHeard", unfollowed := true, recurses := true, apart := false }
def SendHeardSaid : Prop := sendHeardRow.holds Try.pinned (OpenSpec.ofChange sendHeardSpec)

/-- ITS FALSE NEIGHBOUR: 'it returns false'. Refute it at one input. -/
def sendHeardWrong : ChangeSpec := { name := "sendHeard", fn := fun _ => fun
  | [d1, d2, d3, d4] => { results := [.lit (.bool false)], args := [d1, d2, d3, d4] }
  | _ => none }
def SendHeardWrongFalsely : Prop := sendHeardRow.holds Try.pinned (OpenSpec.ofChange sendHeardWrong)

/-- 'packthreadlaw.RecvPlays': WHATEVER THE INPUT: true; the input reads as it did. -/
def recvPlaysSpec : ChangeSpec := { name := "recvPlays", fn := fun _ => fun
  | [d1, d2] => { results := [.lit (.bool true)], args := [d1, d2] }
  | _ => none }
def recvPlaysRow : OpenClaim := { program := "ytehckiihipnimaa", sum := "efd31382fa13430b5bbf9f4087ee76581b2e02bde9df3efa870cf92686e2aa06", func := "packthread/packthreadlaw.RecvPlays", spec := "recvPlays", inPlace := ["slices.overlaps[packthread/api.Range]"], unfollowed := true, recurses := true, apart := false }
def RecvPlaysSaid : Prop := recvPlaysRow.holds Try.pinned (OpenSpec.ofChange recvPlaysSpec)

/-- ITS FALSE NEIGHBOUR: 'it returns false'. Refute it at one input. -/
def recvPlaysWrong : ChangeSpec := { name := "recvPlays", fn := fun _ => fun
  | [d1, d2] => { results := [.lit (.bool false)], args := [d1, d2] }
  | _ => none }
def RecvPlaysWrongFalsely : Prop := recvPlaysRow.holds Try.pinned (OpenSpec.ofChange recvPlaysWrong)

/-- 'packthreadkeep.RecvTrue': WHATEVER THE INPUT: true; the input reads as it did. -/
def recvTrueSpec : ChangeSpec := { name := "recvTrue", fn := fun _ => fun
  | [d1, d2, d3, d4, d5] => { results := [.lit (.bool true)], args := [d1, d2, d3, d4, d5] }
  | _ => none }
def recvTrueRow : OpenClaim := { program := "ytehckiihipnimaa", sum := "efd31382fa13430b5bbf9f4087ee76581b2e02bde9df3efa870cf92686e2aa06", func := "packthread/packthreadkeep.RecvTrue", spec := "recvTrue", inPlace := ["slices.overlaps[packthread/api.Range]"], unfollowed := true, recurses := true, apart := false }
def RecvTrueSaid : Prop := recvTrueRow.holds Try.pinned (OpenSpec.ofChange recvTrueSpec)

/-- ITS FALSE NEIGHBOUR: 'it returns false'. Refute it at one input. -/
def recvTrueWrong : ChangeSpec := { name := "recvTrue", fn := fun _ => fun
  | [d1, d2, d3, d4, d5] => { results := [.lit (.bool false)], args := [d1, d2, d3, d4, d5] }
  | _ => none }
def RecvTrueWrongFalsely : Prop := recvTrueRow.holds Try.pinned (OpenSpec.ofChange recvTrueWrong)

/-- 'packthreadkeep.RecvAll': WHATEVER THE INPUT: true; the input reads as it did. -/
def recvAllSpec : ChangeSpec := { name := "recvAll", fn := fun _ => fun
  | [d1, d2, d3, d4, d5] => { results := [.lit (.bool true)], args := [d1, d2, d3, d4, d5] }
  | _ => none }
def recvAllRow : OpenClaim := { program := "ytehckiihipnimaa", sum := "efd31382fa13430b5bbf9f4087ee76581b2e02bde9df3efa870cf92686e2aa06", func := "packthread/packthreadkeep.RecvAll", spec := "recvAll", inPlace := ["slices.overlaps[packthread/api.Range]"], unfollowed := true, recurses := true, apart := false }
def RecvAllSaid : Prop := recvAllRow.holds Try.pinned (OpenSpec.ofChange recvAllSpec)

/-- ITS FALSE NEIGHBOUR: 'it returns false'. Refute it at one input. -/
def recvAllWrong : ChangeSpec := { name := "recvAll", fn := fun _ => fun
  | [d1, d2, d3, d4, d5] => { results := [.lit (.bool false)], args := [d1, d2, d3, d4, d5] }
  | _ => none }
def RecvAllWrongFalsely : Prop := recvAllRow.holds Try.pinned (OpenSpec.ofChange recvAllWrong)

/-- 'packthreadkeep.RecvTwice': WHATEVER THE INPUT: true; the input reads as it did. -/
def recvTwiceSpec : ChangeSpec := { name := "recvTwice", fn := fun _ => fun
  | [d1, d2, d3, d4, d5, d6] => { results := [.lit (.bool true)], args := [d1, d2, d3, d4, d5, d6] }
  | _ => none }
def recvTwiceRow : OpenClaim := { program := "ytehckiihipnimaa", sum := "efd31382fa13430b5bbf9f4087ee76581b2e02bde9df3efa870cf92686e2aa06", func := "packthread/packthreadkeep.RecvTwice", spec := "recvTwice", inPlace := ["slices.overlaps[packthread/api.Range]"], unfollowed := true, recurses := true, apart := false }
def RecvTwiceSaid : Prop := recvTwiceRow.holds Try.pinned (OpenSpec.ofChange recvTwiceSpec)

/-- ITS FALSE NEIGHBOUR: 'it returns false'. Refute it at one input. -/
def recvTwiceWrong : ChangeSpec := { name := "recvTwice", fn := fun _ => fun
  | [d1, d2, d3, d4, d5, d6] => { results := [.lit (.bool false)], args := [d1, d2, d3, d4, d5, d6] }
  | _ => none }
def RecvTwiceWrongFalsely : Prop := recvTwiceRow.holds Try.pinned (OpenSpec.ofChange recvTwiceWrong)

/-- 'packthreadtop.TopHeard': WHATEVER THE INPUT: true; the input reads as it did. -/
def topHeardSpec : ChangeSpec := { name := "topHeard", fn := fun _ => fun
  | [d1, d2, d3] => { results := [.lit (.bool true)], args := [d1, d2, d3] }
  | _ => none }
def topHeardRow : OpenClaim := { program := "ytehckiihipnimaa", sum := "efd31382fa13430b5bbf9f4087ee76581b2e02bde9df3efa870cf92686e2aa06", func := "packthread/packthreadtop.TopHeard", spec := "topHeard", inPlace := ["slices.overlaps[packthread/api.Range]"], unfollowed := true, recurses := true, apart := false }
def TopHeardSaid : Prop := topHeardRow.holds Try.pinned (OpenSpec.ofChange topHeardSpec)

/-- ITS FALSE NEIGHBOUR: 'it returns false'. Refute it at one input. -/
def topHeardWrong : ChangeSpec := { name := "topHeard", fn := fun _ => fun
  | [d1, d2, d3] => { results := [.lit (.bool false)], args := [d1, d2, d3] }
  | _ => none }
def TopHeardWrongFalsely : Prop := topHeardRow.holds Try.pinned (OpenSpec.ofChange topHeardWrong)

/-- 'packthreadkeep.PipeTrue': WHATEVER THE INPUT: true; the input reads as it did. -/
def pipeTrueSpec : ChangeSpec := { name := "pipeTrue", fn := fun _ => fun
  | [d1, d2, d3] => { results := [.lit (.bool true)], args := [d1, d2, d3] }
  | _ => none }
def pipeTrueRow : OpenClaim := { program := "ytehckiihipnimaa", sum := "efd31382fa13430b5bbf9f4087ee76581b2e02bde9df3efa870cf92686e2aa06", func := "packthread/packthreadkeep.PipeTrue", spec := "pipeTrue", inPlace := ["slices.overlaps[packthread/api.Range]"], unfollowed := true, recurses := true, apart := false }
def PipeTrueSaid : Prop := pipeTrueRow.holds Try.pinned (OpenSpec.ofChange pipeTrueSpec)

/-- ITS FALSE NEIGHBOUR: 'it returns false'. Refute it at one input. -/
def pipeTrueWrong : ChangeSpec := { name := "pipeTrue", fn := fun _ => fun
  | [d1, d2, d3] => { results := [.lit (.bool false)], args := [d1, d2, d3] }
  | _ => none }
def PipeTrueWrongFalsely : Prop := pipeTrueRow.holds Try.pinned (OpenSpec.ofChange pipeTrueWrong)

/-- 'packthreadkeep.PipeComes': WHATEVER THE INPUT: true; the input reads as it did. -/
def pipeComesSpec : ChangeSpec := { name := "pipeComes", fn := fun _ => fun
  | [d1, d2, d3] => { results := [.lit (.bool true)], args := [d1, d2, d3] }
  | _ => none }
def pipeComesRow : OpenClaim := { program := "ytehckiihipnimaa", sum := "efd31382fa13430b5bbf9f4087ee76581b2e02bde9df3efa870cf92686e2aa06", func := "packthread/packthreadkeep.PipeComes", spec := "pipeComes", inPlace := ["slices.overlaps[packthread/api.Range]"], unfollowed := true, recurses := true, apart := false }
def PipeComesSaid : Prop := pipeComesRow.holds Try.pinned (OpenSpec.ofChange pipeComesSpec)

/-- ITS FALSE NEIGHBOUR: 'it returns false'. Refute it at one input. -/
def pipeComesWrong : ChangeSpec := { name := "pipeComes", fn := fun _ => fun
  | [d1, d2, d3] => { results := [.lit (.bool false)], args := [d1, d2, d3] }
  | _ => none }
def PipeComesWrongFalsely : Prop := pipeComesRow.holds Try.pinned (OpenSpec.ofChange pipeComesWrong)

/-- 'packthreadkeep.PipeSerial': WHATEVER THE INPUT: true; the input reads as it did. -/
def pipeSerialSpec : ChangeSpec := { name := "pipeSerial", fn := fun _ => fun
  | [d1, d2, d3, d4] => { results := [.lit (.bool true)], args := [d1, d2, d3, d4] }
  | _ => none }
def pipeSerialRow : OpenClaim := { program := "ytehckiihipnimaa", sum := "efd31382fa13430b5bbf9f4087ee76581b2e02bde9df3efa870cf92686e2aa06", func := "packthread/packthreadkeep.PipeSerial", spec := "pipeSerial", inPlace := ["slices.overlaps[packthread/api.Range]"], unfollowed := true, recurses := true, apart := false }
def PipeSerialSaid : Prop := pipeSerialRow.holds Try.pinned (OpenSpec.ofChange pipeSerialSpec)

/-- ITS FALSE NEIGHBOUR: 'it returns false'. Refute it at one input. -/
def pipeSerialWrong : ChangeSpec := { name := "pipeSerial", fn := fun _ => fun
  | [d1, d2, d3, d4] => { results := [.lit (.bool false)], args := [d1, d2, d3, d4] }
  | _ => none }
def PipeSerialWrongFalsely : Prop := pipeSerialRow.holds Try.pinned (OpenSpec.ofChange pipeSerialWrong)

/-- 'packthreadkeep.PipeHurt': WHATEVER THE INPUT: true; the input reads as it did. -/
def pipeHurtSpec : ChangeSpec := { name := "pipeHurt", fn := fun _ => fun
  | [d1, d2, d3, d4, d5, d6] => { results := [.lit (.bool true)], args := [d1, d2, d3, d4, d5, d6] }
  | _ => none }
def pipeHurtRow : OpenClaim := { program := "ytehckiihipnimaa", sum := "efd31382fa13430b5bbf9f4087ee76581b2e02bde9df3efa870cf92686e2aa06", func := "packthread/packthreadkeep.PipeHurt", spec := "pipeHurt", inPlace := ["slices.overlaps[packthread/api.Range]"], unfollowed := true, recurses := true, apart := false }
def PipeHurtSaid : Prop := pipeHurtRow.holds Try.pinned (OpenSpec.ofChange pipeHurtSpec)

/-- ITS FALSE NEIGHBOUR: 'it returns false'. Refute it at one input. -/
def pipeHurtWrong : ChangeSpec := { name := "pipeHurt", fn := fun _ => fun
  | [d1, d2, d3, d4, d5, d6] => { results := [.lit (.bool false)], args := [d1, d2, d3, d4, d5, d6] }
  | _ => none }
def PipeHurtWrongFalsely : Prop := pipeHurtRow.holds Try.pinned (OpenSpec.ofChange pipeHurtWrong)

/-- 'packthreadkeep.PipeQuiet': WHATEVER THE INPUT: true; the input reads as it did. -/
def pipeQuietSpec : ChangeSpec := { name := "pipeQuiet", fn := fun _ => fun
  | [d1, d2, d3] => { results := [.lit (.bool true)], args := [d1, d2, d3] }
  | _ => none }
def pipeQuietRow : OpenClaim := { program := "ytehckiihipnimaa", sum := "efd31382fa13430b5bbf9f4087ee76581b2e02bde9df3efa870cf92686e2aa06", func := "packthread/packthreadkeep.PipeQuiet", spec := "pipeQuiet", inPlace := ["slices.overlaps[packthread/api.Range]"], unfollowed := true, recurses := true, apart := false }
def PipeQuietSaid : Prop := pipeQuietRow.holds Try.pinned (OpenSpec.ofChange pipeQuietSpec)

/-- ITS FALSE NEIGHBOUR: 'it returns false'. Refute it at one input. -/
def pipeQuietWrong : ChangeSpec := { name := "pipeQuiet", fn := fun _ => fun
  | [d1, d2, d3] => { results := [.lit (.bool false)], args := [d1, d2, d3] }
  | _ => none }
def PipeQuietWrongFalsely : Prop := pipeQuietRow.holds Try.pinned (OpenSpec.ofChange pipeQuietWrong)

/- THE SECOND FORM. 'bulk': how many values and letters a reading holds, each counted each time it is reached (what is shared counts as often as it is met; a slice's spare places count too). A statement '..UptoSaid' is the law's where the arguments, and the package variables that the reading takes, are together of bulk at most 1048576: NARROWER than '..Said'. Prove '..Said' where nothing that the law and all that it calls make is longer than what came in: it says more and counts as full. Else prove '..UptoSaid'. A law counts once. -/
mutual
def uptoBulk {H : Type} : DataW H → Nat
  | .lit (.string bytes) => bytes.length + 1
  | .lit _ => 1
  | .nil => 1
  | .ptr d => uptoBulk d + 1
  | .slice elems spare => uptoBulkAll elems + uptoBulkAll spare + 1
  | .agg parts => uptoBulkAll parts + 1
  | .iface _ d => uptoBulk d + 1
  | .map entries => uptoBulkEntries entries + 1
  | .held _ => 1
def uptoBulkAll {H : Type} : List (DataW H) → Nat
  | [] => 0
  | d :: r => uptoBulk d + uptoBulkAll r
def uptoBulkEntries {H : Type} : List (Lit × DataW H) → Nat
  | [] => 0
  | x :: r => uptoBulkEntry x + uptoBulkEntries r
def uptoBulkEntry {H : Type} : Lit × DataW H → Nat
  | (.string bytes, d) => bytes.length + uptoBulk d + 1
  | (_, d) => uptoBulk d + 1
 end
def uptoSmall : (H : Type) → List (DataW H) → Bool := fun _ ds => decide (uptoBulkAll ds ≤ 1048576)
def OpenSpec.upto (s : _root_.Go.ChangeSpec) : _root_.Go.OpenSpec := { _root_.Go.OpenSpec.ofChange s with cond := some uptoSmall }

/-- 'packthreadlaw.SendPlays', WHERE WHAT IT READS IS OF BULK AT MOST 1048576: true; the input reads as it did. -/
def sendPlaysUptoRow : OpenClaim := { program := "ytehckiihipnimaa", sum := "efd31382fa13430b5bbf9f4087ee76581b2e02bde9df3efa870cf92686e2aa06", func := "packthread/packthreadlaw.SendPlays", spec := "sendPlays", unfollowed := true, recurses := true, apart := false, narrowed := true }
def SendPlaysUptoSaid : Prop := sendPlaysUptoRow.holds Try.pinned (OpenSpec.upto sendPlaysSpec)

/-- 'packthreadkeep.SendTrue', WHERE WHAT IT READS IS OF BULK AT MOST 1048576: true; the input reads as it did. -/
def sendTrueUptoRow : OpenClaim := { program := "ytehckiihipnimaa", sum := "efd31382fa13430b5bbf9f4087ee76581b2e02bde9df3efa870cf92686e2aa06", func := "packthread/packthreadkeep.SendTrue", spec := "sendTrue", unfollowed := true, recurses := true, apart := false, narrowed := true }
def SendTrueUptoSaid : Prop := sendTrueUptoRow.holds Try.pinned (OpenSpec.upto sendTrueSpec)

/-- 'packthreadkeep.SendAll', WHERE WHAT IT READS IS OF BULK AT MOST 1048576: true; the input reads as it did. -/
def sendAllUptoRow : OpenClaim := { program := "ytehckiihipnimaa", sum := "efd31382fa13430b5bbf9f4087ee76581b2e02bde9df3efa870cf92686e2aa06", func := "packthread/packthreadkeep.SendAll", spec := "sendAll", unfollowed := true, recurses := true, apart := false, narrowed := true }
def SendAllUptoSaid : Prop := sendAllUptoRow.holds Try.pinned (OpenSpec.upto sendAllSpec)

/-- 'packthreadkeep.SendHeard', WHERE WHAT IT READS IS OF BULK AT MOST 1048576: true; the input reads as it did. -/
def sendHeardUptoRow : OpenClaim := { program := "ytehckiihipnimaa", sum := "efd31382fa13430b5bbf9f4087ee76581b2e02bde9df3efa870cf92686e2aa06", func := "packthread/packthreadkeep.SendHeard", spec := "sendHeard", unfollowed := true, recurses := true, apart := false, narrowed := true }
def SendHeardUptoSaid : Prop := sendHeardUptoRow.holds Try.pinned (OpenSpec.upto sendHeardSpec)

/-- 'packthreadlaw.RecvPlays', WHERE WHAT IT READS IS OF BULK AT MOST 1048576: true; the input reads as it did. -/
def recvPlaysUptoRow : OpenClaim := { program := "ytehckiihipnimaa", sum := "efd31382fa13430b5bbf9f4087ee76581b2e02bde9df3efa870cf92686e2aa06", func := "packthread/packthreadlaw.RecvPlays", spec := "recvPlays", inPlace := ["slices.overlaps[packthread/api.Range]"], unfollowed := true, recurses := true, apart := false, narrowed := true }
def RecvPlaysUptoSaid : Prop := recvPlaysUptoRow.holds Try.pinned (OpenSpec.upto recvPlaysSpec)

/-- 'packthreadkeep.RecvTrue', WHERE WHAT IT READS IS OF BULK AT MOST 1048576: true; the input reads as it did. -/
def recvTrueUptoRow : OpenClaim := { program := "ytehckiihipnimaa", sum := "efd31382fa13430b5bbf9f4087ee76581b2e02bde9df3efa870cf92686e2aa06", func := "packthread/packthreadkeep.RecvTrue", spec := "recvTrue", inPlace := ["slices.overlaps[packthread/api.Range]"], unfollowed := true, recurses := true, apart := false, narrowed := true }
def RecvTrueUptoSaid : Prop := recvTrueUptoRow.holds Try.pinned (OpenSpec.upto recvTrueSpec)

/-- 'packthreadkeep.RecvAll', WHERE WHAT IT READS IS OF BULK AT MOST 1048576: true; the input reads as it did. -/
def recvAllUptoRow : OpenClaim := { program := "ytehckiihipnimaa", sum := "efd31382fa13430b5bbf9f4087ee76581b2e02bde9df3efa870cf92686e2aa06", func := "packthread/packthreadkeep.RecvAll", spec := "recvAll", inPlace := ["slices.overlaps[packthread/api.Range]"], unfollowed := true, recurses := true, apart := false, narrowed := true }
def RecvAllUptoSaid : Prop := recvAllUptoRow.holds Try.pinned (OpenSpec.upto recvAllSpec)

/-- 'packthreadkeep.RecvTwice', WHERE WHAT IT READS IS OF BULK AT MOST 1048576: true; the input reads as it did. -/
def recvTwiceUptoRow : OpenClaim := { program := "ytehckiihipnimaa", sum := "efd31382fa13430b5bbf9f4087ee76581b2e02bde9df3efa870cf92686e2aa06", func := "packthread/packthreadkeep.RecvTwice", spec := "recvTwice", inPlace := ["slices.overlaps[packthread/api.Range]"], unfollowed := true, recurses := true, apart := false, narrowed := true }
def RecvTwiceUptoSaid : Prop := recvTwiceUptoRow.holds Try.pinned (OpenSpec.upto recvTwiceSpec)

/-- 'packthreadtop.TopHeard', WHERE WHAT IT READS IS OF BULK AT MOST 1048576: true; the input reads as it did. -/
def topHeardUptoRow : OpenClaim := { program := "ytehckiihipnimaa", sum := "efd31382fa13430b5bbf9f4087ee76581b2e02bde9df3efa870cf92686e2aa06", func := "packthread/packthreadtop.TopHeard", spec := "topHeard", inPlace := ["slices.overlaps[packthread/api.Range]"], unfollowed := true, recurses := true, apart := false, narrowed := true }
def TopHeardUptoSaid : Prop := topHeardUptoRow.holds Try.pinned (OpenSpec.upto topHeardSpec)

/-- 'packthreadkeep.PipeTrue', WHERE WHAT IT READS IS OF BULK AT MOST 1048576: true; the input reads as it did. -/
def pipeTrueUptoRow : OpenClaim := { program := "ytehckiihipnimaa", sum := "efd31382fa13430b5bbf9f4087ee76581b2e02bde9df3efa870cf92686e2aa06", func := "packthread/packthreadkeep.PipeTrue", spec := "pipeTrue", inPlace := ["slices.overlaps[packthread/api.Range]"], unfollowed := true, recurses := true, apart := false, narrowed := true }
def PipeTrueUptoSaid : Prop := pipeTrueUptoRow.holds Try.pinned (OpenSpec.upto pipeTrueSpec)

/-- 'packthreadkeep.PipeComes', WHERE WHAT IT READS IS OF BULK AT MOST 1048576: true; the input reads as it did. -/
def pipeComesUptoRow : OpenClaim := { program := "ytehckiihipnimaa", sum := "efd31382fa13430b5bbf9f4087ee76581b2e02bde9df3efa870cf92686e2aa06", func := "packthread/packthreadkeep.PipeComes", spec := "pipeComes", inPlace := ["slices.overlaps[packthread/api.Range]"], unfollowed := true, recurses := true, apart := false, narrowed := true }
def PipeComesUptoSaid : Prop := pipeComesUptoRow.holds Try.pinned (OpenSpec.upto pipeComesSpec)

/-- 'packthreadkeep.PipeSerial', WHERE WHAT IT READS IS OF BULK AT MOST 1048576: true; the input reads as it did. -/
def pipeSerialUptoRow : OpenClaim := { program := "ytehckiihipnimaa", sum := "efd31382fa13430b5bbf9f4087ee76581b2e02bde9df3efa870cf92686e2aa06", func := "packthread/packthreadkeep.PipeSerial", spec := "pipeSerial", inPlace := ["slices.overlaps[packthread/api.Range]"], unfollowed := true, recurses := true, apart := false, narrowed := true }
def PipeSerialUptoSaid : Prop := pipeSerialUptoRow.holds Try.pinned (OpenSpec.upto pipeSerialSpec)

/-- 'packthreadkeep.PipeHurt', WHERE WHAT IT READS IS OF BULK AT MOST 1048576: true; the input reads as it did. -/
def pipeHurtUptoRow : OpenClaim := { program := "ytehckiihipnimaa", sum := "efd31382fa13430b5bbf9f4087ee76581b2e02bde9df3efa870cf92686e2aa06", func := "packthread/packthreadkeep.PipeHurt", spec := "pipeHurt", inPlace := ["slices.overlaps[packthread/api.Range]"], unfollowed := true, recurses := true, apart := false, narrowed := true }
def PipeHurtUptoSaid : Prop := pipeHurtUptoRow.holds Try.pinned (OpenSpec.upto pipeHurtSpec)

/-- 'packthreadkeep.PipeQuiet', WHERE WHAT IT READS IS OF BULK AT MOST 1048576: true; the input reads as it did. -/
def pipeQuietUptoRow : OpenClaim := { program := "ytehckiihipnimaa", sum := "efd31382fa13430b5bbf9f4087ee76581b2e02bde9df3efa870cf92686e2aa06", func := "packthread/packthreadkeep.PipeQuiet", spec := "pipeQuiet", inPlace := ["slices.overlaps[packthread/api.Range]"], unfollowed := true, recurses := true, apart := false, narrowed := true }
def PipeQuietUptoSaid : Prop := pipeQuietUptoRow.holds Try.pinned (OpenSpec.upto pipeQuietSpec)

end Rows
end Go.Proofs.Ytehckiihipnimaa
