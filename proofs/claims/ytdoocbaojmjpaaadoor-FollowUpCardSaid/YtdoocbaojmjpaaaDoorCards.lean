/-
  DERIVED. GIVEN WITH THE SEED: THE CARDS: each row of YtdoocbaojmjpaaaDoorRows.lean that lists a variable, with what it lists TIED to the program's text (the seventh form; the later family's looks); each row that meets fmt, with fmt's text TOLD by the authors' own Lean function (tested against real Go, not proved from fmt's source: count such statements apart). THE CARD IS WHAT COUNTS. Prove the row's statement (the work); the ties are given (YtdoocbaojmjpaaaDoorTie.lean); close each card by the builder's one call (the guide's Derived/Test/ToyasCard.lean, 'card_holds'). Laid BY PROGRAM, IN A SANDBOX (cutbox-door.mjs). By AI agents, Wed Nov 11 2026. No macro, syntax, notation, axiom, sorry.
-/
import Derived.Test.YtdoocbaojmjpaaaDoorRows
import GoSem.ClaimSeven
namespace Go.Proofs.YtdoocbaojmjpaaaDoor
namespace Rows

/-- THE TIED CARD OF 'packthreadlaw.PathCleans'. -/
def pathCleansCard : Claim7 := { stood := { row := pathCleansRow, standIns := [], harness := (true, "b6e5c1ae636c894f97e52fa3e062cca2f840a796ac83e6c4580889b5dc4a27ca"), looks := false }, kinds := [], alts := [], laidByText := true, laidKinds := [.data, .pinned], laidTests := true, laidLooks := .later }
def PathCleansCardSaid : Prop := Claim7.holds Tryd.pinned (.plain (OpenSpec.ofChange pathCleansSpec)) pathCleansCard

/-- THE TIED CARD OF 'packthreadlaw.PathFollows'. -/
def pathFollowsCard : Claim7 := { stood := { row := pathFollowsRow, standIns := [], harness := (true, "b6e5c1ae636c894f97e52fa3e062cca2f840a796ac83e6c4580889b5dc4a27ca"), looks := false }, kinds := [], alts := [], laidByText := true, laidKinds := [.data, .pinned], laidTests := true, laidLooks := .later }
def PathFollowsCardSaid : Prop := Claim7.holds Tryd.pinned (.plain (OpenSpec.ofChange pathFollowsSpec)) pathFollowsCard

/-- THE TIED CARD OF 'packthreadkeep.CleanFixed'. -/
def cleanFixedCard : Claim7 := { stood := { row := cleanFixedRow, standIns := [], harness := (true, "b6e5c1ae636c894f97e52fa3e062cca2f840a796ac83e6c4580889b5dc4a27ca"), looks := false }, kinds := [], alts := [], laidByText := true, laidKinds := [.data, .pinned], laidTests := true, laidLooks := .later }
def CleanFixedCardSaid : Prop := Claim7.holds Tryd.pinned (.plain (OpenSpec.ofChange cleanFixedSpec)) cleanFixedCard

/-- THE TIED CARD OF 'packthreadkeep.FollowTwo'. -/
def followTwoCard : Claim7 := { stood := { row := followTwoRow, standIns := [], harness := (true, "b6e5c1ae636c894f97e52fa3e062cca2f840a796ac83e6c4580889b5dc4a27ca"), looks := false }, kinds := [], alts := [], laidByText := true, laidKinds := [.data, .pinned], laidTests := true, laidLooks := .later }
def FollowTwoCardSaid : Prop := Claim7.holds Tryd.pinned (.plain (OpenSpec.ofChange followTwoSpec)) followTwoCard

/-- THE TIED CARD OF 'packthreadkeep.FollowUp'. -/
def followUpCard : Claim7 := { stood := { row := followUpRow, standIns := [], harness := (true, "b6e5c1ae636c894f97e52fa3e062cca2f840a796ac83e6c4580889b5dc4a27ca"), looks := false }, kinds := [], alts := [], laidByText := true, laidKinds := [.data, .pinned], laidTests := true, laidLooks := .later }
def FollowUpCardSaid : Prop := Claim7.holds Tryd.pinned (.plain (OpenSpec.ofChange followUpSpec)) followUpCard

/-- THE SECOND FORM's CARD OF 'packthreadlaw.PathCleans'. -/
def pathCleansUptoCard : Claim7 := { stood := { row := pathCleansUptoRow, standIns := [], harness := (true, "b6e5c1ae636c894f97e52fa3e062cca2f840a796ac83e6c4580889b5dc4a27ca"), looks := false }, kinds := [], alts := [], laidByText := true, laidKinds := [.data, .pinned], laidTests := true, laidLooks := .later }
def PathCleansUptoCardSaid : Prop := Claim7.holds Tryd.pinned (.plain (OpenSpec.upto pathCleansSpec)) pathCleansUptoCard

/-- THE SECOND FORM's CARD OF 'packthreadlaw.PathFollows'. -/
def pathFollowsUptoCard : Claim7 := { stood := { row := pathFollowsUptoRow, standIns := [], harness := (true, "b6e5c1ae636c894f97e52fa3e062cca2f840a796ac83e6c4580889b5dc4a27ca"), looks := false }, kinds := [], alts := [], laidByText := true, laidKinds := [.data, .pinned], laidTests := true, laidLooks := .later }
def PathFollowsUptoCardSaid : Prop := Claim7.holds Tryd.pinned (.plain (OpenSpec.upto pathFollowsSpec)) pathFollowsUptoCard

/-- THE SECOND FORM's CARD OF 'packthreadkeep.CleanFixed'. -/
def cleanFixedUptoCard : Claim7 := { stood := { row := cleanFixedUptoRow, standIns := [], harness := (true, "b6e5c1ae636c894f97e52fa3e062cca2f840a796ac83e6c4580889b5dc4a27ca"), looks := false }, kinds := [], alts := [], laidByText := true, laidKinds := [.data, .pinned], laidTests := true, laidLooks := .later }
def CleanFixedUptoCardSaid : Prop := Claim7.holds Tryd.pinned (.plain (OpenSpec.upto cleanFixedSpec)) cleanFixedUptoCard

/-- THE SECOND FORM's CARD OF 'packthreadkeep.FollowTwo'. -/
def followTwoUptoCard : Claim7 := { stood := { row := followTwoUptoRow, standIns := [], harness := (true, "b6e5c1ae636c894f97e52fa3e062cca2f840a796ac83e6c4580889b5dc4a27ca"), looks := false }, kinds := [], alts := [], laidByText := true, laidKinds := [.data, .pinned], laidTests := true, laidLooks := .later }
def FollowTwoUptoCardSaid : Prop := Claim7.holds Tryd.pinned (.plain (OpenSpec.upto followTwoSpec)) followTwoUptoCard

/-- THE SECOND FORM's CARD OF 'packthreadkeep.FollowUp'. -/
def followUpUptoCard : Claim7 := { stood := { row := followUpUptoRow, standIns := [], harness := (true, "b6e5c1ae636c894f97e52fa3e062cca2f840a796ac83e6c4580889b5dc4a27ca"), looks := false }, kinds := [], alts := [], laidByText := true, laidKinds := [.data, .pinned], laidTests := true, laidLooks := .later }
def FollowUpUptoCardSaid : Prop := Claim7.holds Tryd.pinned (.plain (OpenSpec.upto followUpSpec)) followUpUptoCard
end Rows
end Go.Proofs.YtdoocbaojmjpaaaDoor
