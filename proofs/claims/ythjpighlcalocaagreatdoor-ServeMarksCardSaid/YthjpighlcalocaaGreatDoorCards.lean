/-
  DERIVED. GIVEN WITH THE SEED: THE CARDS: each row of YthjpighlcalocaaGreatDoorRows.lean that lists a variable, with what it lists TIED to the program's text (the seventh form; the later family's looks); each row that meets fmt, with fmt's text TOLD by the authors' own Lean function (tested against real Go, not proved from fmt's source: count such statements apart). THE CARD IS WHAT COUNTS. Prove the row's statement (the work); the ties are given (YthjpighlcalocaaGreatDoorTie.lean); close each card by the builder's one call (the guide's Derived/Test/ToyasCard.lean, 'card_holds'). Laid BY PROGRAM, IN A SANDBOX (cutbox-door.mjs). By AI agents, Wed Nov 11 2026. No macro, syntax, notation, axiom, sorry.
-/
import Derived.Test.YthjpighlcalocaaGreatDoorRows
import GoSem.ClaimSeven
namespace Go.Proofs.YthjpighlcalocaaGreatDoor
namespace Rows

/-- THE TIED CARD OF 'packthreadlaw.TreePlays'. -/
def treePlaysCard : Claim7 := { stood := { row := treePlaysRow, standIns := [], harness := (true, "acb47f7137cd9794577c85ebd60f35f30678d04b81cb8983963eced2683a246b"), looks := true }, kinds := [], alts := [], laidByText := true, laidKinds := [.data, .pinned], laidTests := true, laidLooks := .later }
def TreePlaysCardSaid : Prop := Claim7.holds Tryz.pinned (.plain (OpenSpec.ofChange treePlaysSpec)) treePlaysCard

/-- THE TIED CARD OF 'packthreadlaw.ServePlays'. -/
def servePlaysCard : Claim7 := { stood := { row := servePlaysRow, standIns := [], harness := (true, "acb47f7137cd9794577c85ebd60f35f30678d04b81cb8983963eced2683a246b"), looks := true }, kinds := [], alts := [], laidByText := true, laidKinds := [.data, .data, .pinned], laidTests := true, laidLooks := .later }
def ServePlaysCardSaid : Prop := Claim7.holds Tryz.pinned (.plain (OpenSpec.ofChange servePlaysSpec)) servePlaysCard

/-- THE TIED CARD OF 'packthreadkeep.ServeMarks'. -/
def serveMarksCard : Claim7 := { stood := { row := serveMarksRow, standIns := [], harness := (true, "acb47f7137cd9794577c85ebd60f35f30678d04b81cb8983963eced2683a246b"), looks := true }, kinds := [], alts := [], laidByText := true, laidKinds := [.data, .data, .pinned], laidTests := true, laidLooks := .later }
def ServeMarksCardSaid : Prop := Claim7.holds Tryz.pinned (.plain (OpenSpec.ofChange serveMarksSpec)) serveMarksCard

/-- THE TIED CARD OF 'packthreadkeep.ServeOld'. -/
def serveOldCard : Claim7 := { stood := { row := serveOldRow, standIns := [], harness := (true, "acb47f7137cd9794577c85ebd60f35f30678d04b81cb8983963eced2683a246b"), looks := true }, kinds := [], alts := [], laidByText := true, laidKinds := [.data, .data, .pinned], laidTests := true, laidLooks := .later }
def ServeOldCardSaid : Prop := Claim7.holds Tryz.pinned (.plain (OpenSpec.ofChange serveOldSpec)) serveOldCard

/-- THE TIED CARD OF 'packthreadkeep.ServeBytes'. -/
def serveBytesCard : Claim7 := { stood := { row := serveBytesRow, standIns := [], harness := (true, "acb47f7137cd9794577c85ebd60f35f30678d04b81cb8983963eced2683a246b"), looks := true }, kinds := [], alts := [], laidByText := true, laidKinds := [.data, .data, .pinned], laidTests := true, laidLooks := .later }
def ServeBytesCardSaid : Prop := Claim7.holds Tryz.pinned (.plain (OpenSpec.ofChange serveBytesSpec)) serveBytesCard

/-- THE SECOND FORM's CARD OF 'packthreadlaw.TreePlays'. -/
def treePlaysUptoCard : Claim7 := { stood := { row := treePlaysUptoRow, standIns := [], harness := (true, "acb47f7137cd9794577c85ebd60f35f30678d04b81cb8983963eced2683a246b"), looks := true }, kinds := [], alts := [], laidByText := true, laidKinds := [.data, .pinned], laidTests := true, laidLooks := .later }
def TreePlaysUptoCardSaid : Prop := Claim7.holds Tryz.pinned (.plain (OpenSpec.upto treePlaysSpec)) treePlaysUptoCard

/-- THE SECOND FORM's CARD OF 'packthreadlaw.ServePlays'. -/
def servePlaysUptoCard : Claim7 := { stood := { row := servePlaysUptoRow, standIns := [], harness := (true, "acb47f7137cd9794577c85ebd60f35f30678d04b81cb8983963eced2683a246b"), looks := true }, kinds := [], alts := [], laidByText := true, laidKinds := [.data, .data, .pinned], laidTests := true, laidLooks := .later }
def ServePlaysUptoCardSaid : Prop := Claim7.holds Tryz.pinned (.plain (OpenSpec.upto servePlaysSpec)) servePlaysUptoCard

/-- THE SECOND FORM's CARD OF 'packthreadkeep.ServeMarks'. -/
def serveMarksUptoCard : Claim7 := { stood := { row := serveMarksUptoRow, standIns := [], harness := (true, "acb47f7137cd9794577c85ebd60f35f30678d04b81cb8983963eced2683a246b"), looks := true }, kinds := [], alts := [], laidByText := true, laidKinds := [.data, .data, .pinned], laidTests := true, laidLooks := .later }
def ServeMarksUptoCardSaid : Prop := Claim7.holds Tryz.pinned (.plain (OpenSpec.upto serveMarksSpec)) serveMarksUptoCard

/-- THE SECOND FORM's CARD OF 'packthreadkeep.ServeOld'. -/
def serveOldUptoCard : Claim7 := { stood := { row := serveOldUptoRow, standIns := [], harness := (true, "acb47f7137cd9794577c85ebd60f35f30678d04b81cb8983963eced2683a246b"), looks := true }, kinds := [], alts := [], laidByText := true, laidKinds := [.data, .data, .pinned], laidTests := true, laidLooks := .later }
def ServeOldUptoCardSaid : Prop := Claim7.holds Tryz.pinned (.plain (OpenSpec.upto serveOldSpec)) serveOldUptoCard

/-- THE SECOND FORM's CARD OF 'packthreadkeep.ServeBytes'. -/
def serveBytesUptoCard : Claim7 := { stood := { row := serveBytesUptoRow, standIns := [], harness := (true, "acb47f7137cd9794577c85ebd60f35f30678d04b81cb8983963eced2683a246b"), looks := true }, kinds := [], alts := [], laidByText := true, laidKinds := [.data, .data, .pinned], laidTests := true, laidLooks := .later }
def ServeBytesUptoCardSaid : Prop := Claim7.holds Tryz.pinned (.plain (OpenSpec.upto serveBytesSpec)) serveBytesUptoCard
end Rows
end Go.Proofs.YthjpighlcalocaaGreatDoor
