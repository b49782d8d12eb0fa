/-
  DERIVED. GIVEN WITH THE SEED: THE CARDS: each row of YtkoncehhpiegfaaGreatDoorRows.lean that lists a variable, with what it lists TIED to the program's text (the seventh form; the later family's looks); each row that meets fmt, with fmt's text TOLD by the authors' own Lean function (tested against real Go, not proved from fmt's source: count such statements apart). THE CARD IS WHAT COUNTS. Prove the row's statement (the work); the ties are given (YtkoncehhpiegfaaGreatDoorTie.lean); close each card by the builder's one call (the guide's Derived/Test/ToyasCard.lean, 'card_holds'). Laid BY PROGRAM, IN A SANDBOX (cutbox-door.mjs). By AI agents, Wed Nov 11 2026. No macro, syntax, notation, axiom, sorry.
-/
import Derived.Test.YtkoncehhpiegfaaGreatDoorRows
import GoSem.ClaimSeven
namespace Go.Proofs.YtkoncehhpiegfaaGreatDoor
namespace Rows

/-- THE TIED CARD OF 'chainmaillaw.LocksPlay'. -/
def locksPlayCard : Claim7 := { stood := { row := locksPlayRow, standIns := [], harness := (true, "394d06a93c01d8385fc6067ed3776f2857b1f2a11f3a22cf50380662bca0ec5e"), looks := true }, kinds := [], alts := [], laidByText := true, laidKinds := [.handle], laidTests := true, laidLooks := .later }
def LocksPlayCardSaid : Prop := Claim7.holds Tryz.pinned (.plain (OpenSpec.ofChange locksPlaySpec)) locksPlayCard

/-- THE SECOND FORM's CARD OF 'chainmaillaw.LocksPlay'. -/
def locksPlayUptoCard : Claim7 := { stood := { row := locksPlayUptoRow, standIns := [], harness := (true, "394d06a93c01d8385fc6067ed3776f2857b1f2a11f3a22cf50380662bca0ec5e"), looks := true }, kinds := [], alts := [], laidByText := true, laidKinds := [.handle], laidTests := true, laidLooks := .later }
def LocksPlayUptoCardSaid : Prop := Claim7.holds Tryz.pinned (.plain (OpenSpec.upto locksPlaySpec)) locksPlayUptoCard
end Rows
end Go.Proofs.YtkoncehhpiegfaaGreatDoor
