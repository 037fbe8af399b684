/-
  NARROWER THAN 'FOR EVERY INPUT', by the rows' own cells (each row's printed sentence says how): TreePlays: laid · ServePlays: laid · ServeMarks: laid · ServeOld: laid · ServeBytes: laid.
  DERIVED. THE GIVEN ROWS OF THIS SEAT. 5 by the template 'for every input the law returns true; each argument reads behind the call as it read before'; 0 by the template 'total and deterministic' (their statements: YthjpighlcalocaaGreatDoorTotals.lean).
  GIVEN WITH THE SEED: the statements are not yours to turn. If you find one false, say at which input.
  Laid BY PROGRAM, IN A SANDBOX (cutbox-rows.mjs): the forced cells as the released guide's own fill.sh prints them over the translation aff85f124124d98b… (all of the seat's roots in one cut). By AI agents, Wed Nov 11 2026. No macro, syntax, notation, axiom, sorry.
-/
import Derived.Test.YthjpighlcalocaaGreatDoorChecked
import GoSem.PinnedTables
import GoSem.Claim
import GoSem.ClaimJoined
import GoSem.ClaimMapViews
import Derived.JoinedTies
import Derived.KernelRfl
namespace Go.Proofs.YthjpighlcalocaaGreatDoor
/- THE CELL 'sum', in the pinned program and in every row, IS THE sha256 OF THE DUMP (.gsa) THAT YthjpighlcalocaaGreatDoorProg.lean LOADS. Nothing in Lean hashes anything: it is a label: what it is worth is what the hold of that sum in a sandbox is worth. -/
noncomputable def Tryz.pinned : Pinned := { name := "ythjpighlcalocaagreatdoor", sum := "aff85f124124d98ba255bdb8ce98289b64f9ed0dd65912799b088c8a232b5f3e", checked := Tryz.checked }
namespace Rows
def none {H : Type} : Left H := { results := [], args := [] }

/- WHAT THE LISTED PACKAGE-LEVEL VARIABLES READ AS WHEN THE CALL BEGINS. Each datum BY PROGRAM (the guide's laid-datum.mjs) off the statement by which the dump's own 'gosem.cut.vars' lays the variable. In a bare row this is a premise. The card (YthjpighlcalocaaGreatDoorCards.lean) ties it to the program's text. -/
def laid_unicode_utf8_acceptRanges {H : Type} : DataW H := .agg [.agg [.lit (.int .u8 128), .lit (.int .u8 191)], .agg [.lit (.int .u8 160), .lit (.int .u8 191)], .agg [.lit (.int .u8 128), .lit (.int .u8 159)], .agg [.lit (.int .u8 144), .lit (.int .u8 191)], .agg [.lit (.int .u8 128), .lit (.int .u8 143)], .agg [.lit (.int .u8 0), .lit (.int .u8 0)], .agg [.lit (.int .u8 0), .lit (.int .u8 0)], .agg [.lit (.int .u8 0), .lit (.int .u8 0)], .agg [.lit (.int .u8 0), .lit (.int .u8 0)], .agg [.lit (.int .u8 0), .lit (.int .u8 0)], .agg [.lit (.int .u8 0), .lit (.int .u8 0)], .agg [.lit (.int .u8 0), .lit (.int .u8 0)], .agg [.lit (.int .u8 0), .lit (.int .u8 0)], .agg [.lit (.int .u8 0), .lit (.int .u8 0)], .agg [.lit (.int .u8 0), .lit (.int .u8 0)], .agg [.lit (.int .u8 0), .lit (.int .u8 0)]]
/-- One of Go's own tables, pinned by name: the form's constant. -/
def laid_unicode_utf8_first : DataW Unit := Go.Pinned.utf8First
def laid_packthread_server_acts {H : Type} : DataW H := .agg [.lit (.int .i64 0), .lit (.int .i64 0), .lit (.int .i64 0), .lit (.int .i64 4), .lit (.int .i64 3), .lit (.int .i64 6), .lit (.int .i64 7), .lit (.int .i64 1), .lit (.int .i64 8), .lit (.int .i64 9), .lit (.int .i64 10)]

/-- 'packthreadlaw.TreePlays': WHATEVER THE INPUT: true; the input reads as it did. -/
def treePlaysSpec : ChangeSpec := { name := "treePlays", fn := fun _ => fun
  | [d] => { results := [.lit (.bool true)], args := [d] }
  | _ => none }
def treePlaysRow : OpenClaim := { program := "ythjpighlcalocaagreatdoor", sum := "aff85f124124d98ba255bdb8ce98289b64f9ed0dd65912799b088c8a232b5f3e", func := "packthread/packthreadlaw.TreePlays", spec := "treePlays", inPlace := ["internal/bytealg.IndexByteString", "internal/bytealg.IndexString"], unfollowed := true, recurses := true, named := ["unicode/utf8.first", "unicode/utf8.acceptRanges", "internal/bytealg.MaxLen"], apart := false, laid := [("unicode/utf8.acceptRanges", laid_unicode_utf8_acceptRanges), ("unicode/utf8.first", laid_unicode_utf8_first)] }
def TreePlaysSaid : Prop := treePlaysRow.holds Tryz.pinned (OpenSpec.ofChange treePlaysSpec)

/-- ITS FALSE NEIGHBOUR: 'it returns false'. Refute it at one input. -/
def treePlaysWrong : ChangeSpec := { name := "treePlays", fn := fun _ => fun
  | [d] => { results := [.lit (.bool false)], args := [d] }
  | _ => none }
def TreePlaysWrongFalsely : Prop := treePlaysRow.holds Tryz.pinned (OpenSpec.ofChange treePlaysWrong)

/-- 'packthreadlaw.ServePlays': WHATEVER THE INPUT: true; the input reads as it did. -/
def servePlaysSpec : ChangeSpec := { name := "servePlays", fn := fun _ => fun
  | [d] => { results := [.lit (.bool true)], args := [d] }
  | _ => none }
def servePlaysRow : OpenClaim := { program := "ythjpighlcalocaagreatdoor", sum := "aff85f124124d98ba255bdb8ce98289b64f9ed0dd65912799b088c8a232b5f3e", func := "packthread/packthreadlaw.ServePlays", spec := "servePlays", inPlace := ["internal/bytealg.IndexByteString", "internal/bytealg.IndexString"], unfollowed := true, recurses := true, named := ["unicode/utf8.first", "unicode/utf8.acceptRanges", "internal/bytealg.MaxLen", "packthread/server.acts"], apart := false, laid := [("unicode/utf8.acceptRanges", laid_unicode_utf8_acceptRanges), ("packthread/server.acts", laid_packthread_server_acts), ("unicode/utf8.first", laid_unicode_utf8_first)] }
def ServePlaysSaid : Prop := servePlaysRow.holds Tryz.pinned (OpenSpec.ofChange servePlaysSpec)

/-- ITS FALSE NEIGHBOUR: 'it returns false'. Refute it at one input. -/
def servePlaysWrong : ChangeSpec := { name := "servePlays", fn := fun _ => fun
  | [d] => { results := [.lit (.bool false)], args := [d] }
  | _ => none }
def ServePlaysWrongFalsely : Prop := servePlaysRow.holds Tryz.pinned (OpenSpec.ofChange servePlaysWrong)

/-- 'packthreadkeep.ServeMarks': WHATEVER THE INPUT: true; the input reads as it did. -/
def serveMarksSpec : ChangeSpec := { name := "serveMarks", fn := fun _ => fun
  | [d1, d2] => { results := [.lit (.bool true)], args := [d1, d2] }
  | _ => none }
def serveMarksRow : OpenClaim := { program := "ythjpighlcalocaagreatdoor", sum := "aff85f124124d98ba255bdb8ce98289b64f9ed0dd65912799b088c8a232b5f3e", func := "packthread/packthreadkeep.ServeMarks", spec := "serveMarks", inPlace := ["internal/bytealg.IndexByteString", "internal/bytealg.IndexString"], unfollowed := true, recurses := true, named := ["unicode/utf8.first", "unicode/utf8.acceptRanges", "internal/bytealg.MaxLen", "packthread/server.acts"], apart := false, laid := [("unicode/utf8.acceptRanges", laid_unicode_utf8_acceptRanges), ("packthread/server.acts", laid_packthread_server_acts), ("unicode/utf8.first", laid_unicode_utf8_first)] }
def ServeMarksSaid : Prop := serveMarksRow.holds Tryz.pinned (OpenSpec.ofChange serveMarksSpec)

/-- ITS FALSE NEIGHBOUR: 'it returns false'. Refute it at one input. -/
def serveMarksWrong : ChangeSpec := { name := "serveMarks", fn := fun _ => fun
  | [d1, d2] => { results := [.lit (.bool false)], args := [d1, d2] }
  | _ => none }
def ServeMarksWrongFalsely : Prop := serveMarksRow.holds Tryz.pinned (OpenSpec.ofChange serveMarksWrong)

/-- 'packthreadkeep.ServeOld': WHATEVER THE INPUT: true; the input reads as it did. -/
def serveOldSpec : ChangeSpec := { name := "serveOld", fn := fun _ => fun
  | [d1, d2] => { results := [.lit (.bool true)], args := [d1, d2] }
  | _ => none }
def serveOldRow : OpenClaim := { program := "ythjpighlcalocaagreatdoor", sum := "aff85f124124d98ba255bdb8ce98289b64f9ed0dd65912799b088c8a232b5f3e", func := "packthread/packthreadkeep.ServeOld", spec := "serveOld", inPlace := ["internal/bytealg.IndexByteString", "internal/bytealg.IndexString"], unfollowed := true, recurses := true, named := ["unicode/utf8.first", "unicode/utf8.acceptRanges", "internal/bytealg.MaxLen", "packthread/server.acts"], apart := false, laid := [("unicode/utf8.acceptRanges", laid_unicode_utf8_acceptRanges), ("packthread/server.acts", laid_packthread_server_acts), ("unicode/utf8.first", laid_unicode_utf8_first)] }
def ServeOldSaid : Prop := serveOldRow.holds Tryz.pinned (OpenSpec.ofChange serveOldSpec)

/-- ITS FALSE NEIGHBOUR: 'it returns false'. Refute it at one input. -/
def serveOldWrong : ChangeSpec := { name := "serveOld", fn := fun _ => fun
  | [d1, d2] => { results := [.lit (.bool false)], args := [d1, d2] }
  | _ => none }
def ServeOldWrongFalsely : Prop := serveOldRow.holds Tryz.pinned (OpenSpec.ofChange serveOldWrong)

/-- 'packthreadkeep.ServeBytes': WHATEVER THE INPUT: true; the input reads as it did. -/
def serveBytesSpec : ChangeSpec := { name := "serveBytes", fn := fun _ => fun
  | [d1, d2, d3] => { results := [.lit (.bool true)], args := [d1, d2, d3] }
  | _ => none }
def serveBytesRow : OpenClaim := { program := "ythjpighlcalocaagreatdoor", sum := "aff85f124124d98ba255bdb8ce98289b64f9ed0dd65912799b088c8a232b5f3e", func := "packthread/packthreadkeep.ServeBytes", spec := "serveBytes", inPlace := ["internal/bytealg.IndexByteString", "internal/bytealg.IndexString"], unfollowed := true, recurses := true, named := ["unicode/utf8.first", "unicode/utf8.acceptRanges", "internal/bytealg.MaxLen", "packthread/server.acts"], apart := false, laid := [("unicode/utf8.acceptRanges", laid_unicode_utf8_acceptRanges), ("packthread/server.acts", laid_packthread_server_acts), ("unicode/utf8.first", laid_unicode_utf8_first)] }
def ServeBytesSaid : Prop := serveBytesRow.holds Tryz.pinned (OpenSpec.ofChange serveBytesSpec)

/-- ITS FALSE NEIGHBOUR: 'it returns false'. Refute it at one input. -/
def serveBytesWrong : ChangeSpec := { name := "serveBytes", fn := fun _ => fun
  | [d1, d2, d3] => { results := [.lit (.bool false)], args := [d1, d2, d3] }
  | _ => none }
def ServeBytesWrongFalsely : Prop := serveBytesRow.holds Tryz.pinned (OpenSpec.ofChange serveBytesWrong)

/- THE SECOND FORM. 'bulk': how many values and letters a reading holds, each counted each time it is reached (what is shared counts as often as it is met; a slice's spare places count too). A statement '..UptoSaid' is the law's where the arguments, and the package variables that the reading takes, are together of bulk at most 1048576: NARROWER than '..Said'. Prove '..Said' where nothing that the law and all that it calls make is longer than what came in: it says more and counts as full. Else prove '..UptoSaid'. A law counts once. -/
mutual
def uptoBulk {H : Type} : DataW H → Nat
  | .lit (.string bytes) => bytes.length + 1
  | .lit _ => 1
  | .nil => 1
  | .ptr d => uptoBulk d + 1
  | .slice elems spare => uptoBulkAll elems + uptoBulkAll spare + 1
  | .agg parts => uptoBulkAll parts + 1
  | .iface _ d => uptoBulk d + 1
  | .map entries => uptoBulkEntries entries + 1
  | .held _ => 1
def uptoBulkAll {H : Type} : List (DataW H) → Nat
  | [] => 0
  | d :: r => uptoBulk d + uptoBulkAll r
def uptoBulkEntries {H : Type} : List (Lit × DataW H) → Nat
  | [] => 0
  | x :: r => uptoBulkEntry x + uptoBulkEntries r
def uptoBulkEntry {H : Type} : Lit × DataW H → Nat
  | (.string bytes, d) => bytes.length + uptoBulk d + 1
  | (_, d) => uptoBulk d + 1
 end
def uptoSmall : (H : Type) → List (DataW H) → Bool := fun _ ds => decide (uptoBulkAll ds ≤ 1048576)
def OpenSpec.upto (s : _root_.Go.ChangeSpec) : _root_.Go.OpenSpec := { _root_.Go.OpenSpec.ofChange s with cond := some uptoSmall }

/-- 'packthreadlaw.TreePlays', WHERE WHAT IT READS IS OF BULK AT MOST 1048576: true; the input reads as it did. -/
def treePlaysUptoRow : OpenClaim := { program := "ythjpighlcalocaagreatdoor", sum := "aff85f124124d98ba255bdb8ce98289b64f9ed0dd65912799b088c8a232b5f3e", func := "packthread/packthreadlaw.TreePlays", spec := "treePlays", inPlace := ["internal/bytealg.IndexByteString", "internal/bytealg.IndexString"], unfollowed := true, recurses := true, named := ["unicode/utf8.first", "unicode/utf8.acceptRanges", "internal/bytealg.MaxLen"], apart := false, laid := [("unicode/utf8.acceptRanges", laid_unicode_utf8_acceptRanges), ("unicode/utf8.first", laid_unicode_utf8_first)], narrowed := true }
def TreePlaysUptoSaid : Prop := treePlaysUptoRow.holds Tryz.pinned (OpenSpec.upto treePlaysSpec)

/-- 'packthreadlaw.ServePlays', WHERE WHAT IT READS IS OF BULK AT MOST 1048576: true; the input reads as it did. -/
def servePlaysUptoRow : OpenClaim := { program := "ythjpighlcalocaagreatdoor", sum := "aff85f124124d98ba255bdb8ce98289b64f9ed0dd65912799b088c8a232b5f3e", func := "packthread/packthreadlaw.ServePlays", spec := "servePlays", inPlace := ["internal/bytealg.IndexByteString", "internal/bytealg.IndexString"], unfollowed := true, recurses := true, named := ["unicode/utf8.first", "unicode/utf8.acceptRanges", "internal/bytealg.MaxLen", "packthread/server.acts"], apart := false, laid := [("unicode/utf8.acceptRanges", laid_unicode_utf8_acceptRanges), ("packthread/server.acts", laid_packthread_server_acts), ("unicode/utf8.first", laid_unicode_utf8_first)], narrowed := true }
def ServePlaysUptoSaid : Prop := servePlaysUptoRow.holds Tryz.pinned (OpenSpec.upto servePlaysSpec)

/-- 'packthreadkeep.ServeMarks', WHERE WHAT IT READS IS OF BULK AT MOST 1048576: true; the input reads as it did. -/
def serveMarksUptoRow : OpenClaim := { program := "ythjpighlcalocaagreatdoor", sum := "aff85f124124d98ba255bdb8ce98289b64f9ed0dd65912799b088c8a232b5f3e", func := "packthread/packthreadkeep.ServeMarks", spec := "serveMarks", inPlace := ["internal/bytealg.IndexByteString", "internal/bytealg.IndexString"], unfollowed := true, recurses := true, named := ["unicode/utf8.first", "unicode/utf8.acceptRanges", "internal/bytealg.MaxLen", "packthread/server.acts"], apart := false, laid := [("unicode/utf8.acceptRanges", laid_unicode_utf8_acceptRanges), ("packthread/server.acts", laid_packthread_server_acts), ("unicode/utf8.first", laid_unicode_utf8_first)], narrowed := true }
def ServeMarksUptoSaid : Prop := serveMarksUptoRow.holds Tryz.pinned (OpenSpec.upto serveMarksSpec)

/-- 'packthreadkeep.ServeOld', WHERE WHAT IT READS IS OF BULK AT MOST 1048576: true; the input reads as it did. -/
def serveOldUptoRow : OpenClaim := { program := "ythjpighlcalocaagreatdoor", sum := "aff85f124124d98ba255bdb8ce98289b64f9ed0dd65912799b088c8a232b5f3e", func := "packthread/packthreadkeep.ServeOld", spec := "serveOld", inPlace := ["internal/bytealg.IndexByteString", "internal/bytealg.IndexString"], unfollowed := true, recurses := true, named := ["unicode/utf8.first", "unicode/utf8.acceptRanges", "internal/bytealg.MaxLen", "packthread/server.acts"], apart := false, laid := [("unicode/utf8.acceptRanges", laid_unicode_utf8_acceptRanges), ("packthread/server.acts", laid_packthread_server_acts), ("unicode/utf8.first", laid_unicode_utf8_first)], narrowed := true }
def ServeOldUptoSaid : Prop := serveOldUptoRow.holds Tryz.pinned (OpenSpec.upto serveOldSpec)

/-- 'packthreadkeep.ServeBytes', WHERE WHAT IT READS IS OF BULK AT MOST 1048576: true; the input reads as it did. -/
def serveBytesUptoRow : OpenClaim := { program := "ythjpighlcalocaagreatdoor", sum := "aff85f124124d98ba255bdb8ce98289b64f9ed0dd65912799b088c8a232b5f3e", func := "packthread/packthreadkeep.ServeBytes", spec := "serveBytes", inPlace := ["internal/bytealg.IndexByteString", "internal/bytealg.IndexString"], unfollowed := true, recurses := true, named := ["unicode/utf8.first", "unicode/utf8.acceptRanges", "internal/bytealg.MaxLen", "packthread/server.acts"], apart := false, laid := [("unicode/utf8.acceptRanges", laid_unicode_utf8_acceptRanges), ("packthread/server.acts", laid_packthread_server_acts), ("unicode/utf8.first", laid_unicode_utf8_first)], narrowed := true }
def ServeBytesUptoSaid : Prop := serveBytesUptoRow.holds Tryz.pinned (OpenSpec.upto serveBytesSpec)

end Rows
end Go.Proofs.YthjpighlcalocaaGreatDoor
