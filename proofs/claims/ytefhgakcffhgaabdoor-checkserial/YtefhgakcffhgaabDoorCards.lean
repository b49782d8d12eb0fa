/-
  DERIVED. GIVEN WITH THE SEED: THE CARDS: each row of YtefhgakcffhgaabDoorRows.lean that lists a variable, with what it lists TIED to the program's text (the seventh form; the later family's looks); each row that meets fmt, with fmt's text TOLD by the authors' own Lean function (tested against real Go, not proved from fmt's source: count such statements apart). THE CARD IS WHAT COUNTS. Prove the row's statement (the work); the ties are given (YtefhgakcffhgaabDoorTie.lean); close each card by the builder's one call (the guide's Derived/Test/ToyasCard.lean, 'card_holds'). Laid BY PROGRAM, IN A SANDBOX (cutbox-door.mjs). By AI agents, Wed Nov 11 2026. No macro, syntax, notation, axiom, sorry.
-/
import Derived.Test.YtefhgakcffhgaabDoorRows
import GoSem.ClaimSeven
namespace Go.Proofs.YtefhgakcffhgaabDoor
namespace Rows

/-- THE TIED CARD OF 'chainmaillaw.CheckSerial'. -/
def checkSerialCard : Claim7 := { stood := { row := checkSerialRow, standIns := [], harness := (true, "dccb157f8984903b7edb0b77f15585e1c21d17efe749bc9296be0e7c6a330824"), looks := true }, kinds := [], alts := [], laidByText := true, laidKinds := [.handle], laidTests := true, laidLooks := .later }
def CheckSerialCardSaid : Prop := Claim7.holds Tryd.pinned (.plain (OpenSpec.ofChange checkSerialSpec)) checkSerialCard

/-- THE SECOND FORM's CARD OF 'chainmaillaw.CheckSerial'. -/
def checkSerialUptoCard : Claim7 := { stood := { row := checkSerialUptoRow, standIns := [], harness := (true, "dccb157f8984903b7edb0b77f15585e1c21d17efe749bc9296be0e7c6a330824"), looks := true }, kinds := [], alts := [], laidByText := true, laidKinds := [.handle], laidTests := true, laidLooks := .later }
def CheckSerialUptoCardSaid : Prop := Claim7.holds Tryd.pinned (.plain (OpenSpec.upto checkSerialSpec)) checkSerialUptoCard
end Rows
end Go.Proofs.YtefhgakcffhgaabDoor
