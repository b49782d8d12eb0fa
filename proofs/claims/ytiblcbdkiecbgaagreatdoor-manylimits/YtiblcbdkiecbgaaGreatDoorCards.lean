/-
  DERIVED. GIVEN WITH THE SEED: THE CARDS: each row of YtiblcbdkiecbgaaGreatDoorRows.lean that lists a variable, with what it lists TIED to the program's text (the seventh form; the later family's looks); each row that meets fmt, with fmt's text TOLD by the authors' own Lean function (tested against real Go, not proved from fmt's source: count such statements apart). THE CARD IS WHAT COUNTS. Prove the row's statement (the work); the ties are given (YtiblcbdkiecbgaaGreatDoorTie.lean); close each card by the builder's one call (the guide's Derived/Test/ToyasCard.lean, 'card_holds'). Laid BY PROGRAM, IN A SANDBOX (cutbox-door.mjs). By AI agents, Wed Nov 11 2026. No macro, syntax, notation, axiom, sorry.
-/
import Derived.Test.YtiblcbdkiecbgaaGreatDoorRows
import GoSem.ClaimSeven
namespace Go.Proofs.YtiblcbdkiecbgaaGreatDoor
namespace Rows

/-- THE TIED CARD OF 'chainmailkeep.ManyWorkers'. -/
def manyWorkersCard : Claim7 := { stood := { row := manyWorkersRow, standIns := [], harness := (true, "dea5e54bb248385c0ec6a32e78516a2acad3914523182c42f6b60f5112ef14e7"), looks := true }, kinds := [], alts := [], goes := true, laidByText := true, laidKinds := [.data, .data, .data, .handle, .sentinel, .sentinel], laidTests := true, laidLooks := .later }
def ManyWorkersCardSaid : Prop := Claim7.holds Tryz.pinned (.plain (OpenSpec.ofChange manyWorkersSpec)) manyWorkersCard

/-- THE TIED CARD OF 'chainmailkeep.ManyLimits'. -/
def manyLimitsCard : Claim7 := { stood := { row := manyLimitsRow, standIns := [], harness := (true, "dea5e54bb248385c0ec6a32e78516a2acad3914523182c42f6b60f5112ef14e7"), looks := true }, kinds := [], alts := [], goes := true, laidByText := true, laidKinds := [.data, .data, .data, .handle, .sentinel, .sentinel], laidTests := true, laidLooks := .later }
def ManyLimitsCardSaid : Prop := Claim7.holds Tryz.pinned (.plain (OpenSpec.ofChange manyLimitsSpec)) manyLimitsCard

/-- THE SECOND FORM's CARD OF 'chainmailkeep.ManyWorkers'. -/
def manyWorkersUptoCard : Claim7 := { stood := { row := manyWorkersUptoRow, standIns := [], harness := (true, "dea5e54bb248385c0ec6a32e78516a2acad3914523182c42f6b60f5112ef14e7"), looks := true }, kinds := [], alts := [], goes := true, laidByText := true, laidKinds := [.data, .data, .data, .handle, .sentinel, .sentinel], laidTests := true, laidLooks := .later }
def ManyWorkersUptoCardSaid : Prop := Claim7.holds Tryz.pinned (.plain (OpenSpec.upto manyWorkersSpec)) manyWorkersUptoCard

/-- THE SECOND FORM's CARD OF 'chainmailkeep.ManyLimits'. -/
def manyLimitsUptoCard : Claim7 := { stood := { row := manyLimitsUptoRow, standIns := [], harness := (true, "dea5e54bb248385c0ec6a32e78516a2acad3914523182c42f6b60f5112ef14e7"), looks := true }, kinds := [], alts := [], goes := true, laidByText := true, laidKinds := [.data, .data, .data, .handle, .sentinel, .sentinel], laidTests := true, laidLooks := .later }
def ManyLimitsUptoCardSaid : Prop := Claim7.holds Tryz.pinned (.plain (OpenSpec.upto manyLimitsSpec)) manyLimitsUptoCard
end Rows
end Go.Proofs.YtiblcbdkiecbgaaGreatDoor
