/-
  DERIVED. GIVEN WITH THE SEED: THE CARDS: each row of YtefhgakcffhgaaaDoorRows.lean that lists a variable, with what it lists TIED to the program's text (the seventh form; the later family's looks); each row that meets fmt, with fmt's text TOLD by the authors' own Lean function (tested against real Go, not proved from fmt's source: count such statements apart). THE CARD IS WHAT COUNTS. Prove the row's statement (the work); the ties are given (YtefhgakcffhgaaaDoorTie.lean); close each card by the builder's one call (the guide's Derived/Test/ToyasCard.lean, 'card_holds'). Laid BY PROGRAM, IN A SANDBOX (cutbox-door.mjs). By AI agents, Wed Nov 11 2026. No macro, syntax, notation, axiom, sorry.
-/
import Derived.Test.YtefhgakcffhgaaaDoorRows
import GoSem.ClaimSeven
namespace Go.Proofs.YtefhgakcffhgaaaDoor
namespace Rows

/-- THE TIED CARD OF 'chainmaillaw.WireMsgs'. -/
def wireMsgsCard : Claim7 := { stood := { row := wireMsgsRow, standIns := [], harness := (true, "0183cea5ea0abe08010a76bf8ef2ffac9008b28ba642843d88cc475104b05e53"), looks := true }, kinds := [], alts := [], laidByText := true, laidKinds := [.handle], laidTests := true, laidLooks := .later }
def WireMsgsCardSaid : Prop := Claim7.holds Tryd.pinned (.plain (OpenSpec.ofChange wireMsgsSpec)) wireMsgsCard

/-- THE TIED CARD OF 'chainmaillaw.WireLogs'. -/
def wireLogsCard : Claim7 := { stood := { row := wireLogsRow, standIns := [], harness := (true, "0183cea5ea0abe08010a76bf8ef2ffac9008b28ba642843d88cc475104b05e53"), looks := true }, kinds := [], alts := [], laidByText := true, laidKinds := [.handle], laidTests := true, laidLooks := .later }
def WireLogsCardSaid : Prop := Claim7.holds Tryd.pinned (.plain (OpenSpec.ofChange wireLogsSpec)) wireLogsCard

/-- THE TIED CARD OF 'chainmaillaw.WireReads'. -/
def wireReadsCard : Claim7 := { stood := { row := wireReadsRow, standIns := [], harness := (true, "0183cea5ea0abe08010a76bf8ef2ffac9008b28ba642843d88cc475104b05e53"), looks := true }, kinds := [], alts := [], laidByText := true, laidKinds := [.handle], laidTests := true, laidLooks := .later }
def WireReadsCardSaid : Prop := Claim7.holds Tryd.pinned (.plain (OpenSpec.ofChange wireReadsSpec)) wireReadsCard

/-- THE TIED CARD OF 'chainmailkeep.WireBack'. -/
def wireBackCard : Claim7 := { stood := { row := wireBackRow, standIns := [], harness := (true, "0183cea5ea0abe08010a76bf8ef2ffac9008b28ba642843d88cc475104b05e53"), looks := true }, kinds := [], alts := [], laidByText := true, laidKinds := [.handle], laidTests := true, laidLooks := .later }
def WireBackCardSaid : Prop := Claim7.holds Tryd.pinned (.plain (OpenSpec.ofChange wireBackSpec)) wireBackCard

/-- THE TIED CARD OF 'chainmaillaw.NetPlays'. -/
def netPlaysCard : Claim7 := { stood := { row := netPlaysRow, standIns := [], harness := (true, "0183cea5ea0abe08010a76bf8ef2ffac9008b28ba642843d88cc475104b05e53"), looks := true }, kinds := [], alts := [], laidByText := true, laidKinds := [.handle], laidTests := true, laidLooks := .later }
def NetPlaysCardSaid : Prop := Claim7.holds Tryd.pinned (.plain (OpenSpec.ofChange netPlaysSpec)) netPlaysCard

/-- THE TIED CARD OF 'chainmailkeep.MvTrims'. -/
def mvTrimsCard : Claim7 := { stood := { row := mvTrimsRow, standIns := [], harness := (true, "0183cea5ea0abe08010a76bf8ef2ffac9008b28ba642843d88cc475104b05e53"), looks := true }, kinds := [], alts := [], laidByText := true, laidKinds := [.handle], laidTests := true, laidLooks := .later }
def MvTrimsCardSaid : Prop := Claim7.holds Tryd.pinned (.plain (OpenSpec.ofChange mvTrimsSpec)) mvTrimsCard

/-- THE TIED CARD OF 'chainmaillaw.MvPlays'. -/
def mvPlaysCard : Claim7 := { stood := { row := mvPlaysRow, standIns := [], harness := (true, "0183cea5ea0abe08010a76bf8ef2ffac9008b28ba642843d88cc475104b05e53"), looks := true }, kinds := [], alts := [], laidByText := true, laidKinds := [.handle], laidTests := true, laidLooks := .later }
def MvPlaysCardSaid : Prop := Claim7.holds Tryd.pinned (.plain (OpenSpec.ofChange mvPlaysSpec)) mvPlaysCard

/-- THE TIED CARD OF 'chainmaillaw.ChainFills'. -/
def chainFillsCard : Claim7 := { stood := { row := chainFillsRow, standIns := [], harness := (true, "0183cea5ea0abe08010a76bf8ef2ffac9008b28ba642843d88cc475104b05e53"), looks := true }, kinds := [], alts := [], laidByText := true, laidKinds := [.handle], laidTests := true, laidLooks := .later }
def ChainFillsCardSaid : Prop := Claim7.holds Tryd.pinned (.plain (OpenSpec.ofChange chainFillsSpec)) chainFillsCard

/-- THE TIED CARD OF 'chainmaillaw.ChainSteps'. -/
def chainStepsCard : Claim7 := { stood := { row := chainStepsRow, standIns := [], harness := (true, "0183cea5ea0abe08010a76bf8ef2ffac9008b28ba642843d88cc475104b05e53"), looks := true }, kinds := [], alts := [], laidByText := true, laidKinds := [.handle], laidTests := true, laidLooks := .later }
def ChainStepsCardSaid : Prop := Claim7.holds Tryd.pinned (.plain (OpenSpec.ofChange chainStepsSpec)) chainStepsCard

/-- THE SECOND FORM's CARD OF 'chainmaillaw.WireMsgs'. -/
def wireMsgsUptoCard : Claim7 := { stood := { row := wireMsgsUptoRow, standIns := [], harness := (true, "0183cea5ea0abe08010a76bf8ef2ffac9008b28ba642843d88cc475104b05e53"), looks := true }, kinds := [], alts := [], laidByText := true, laidKinds := [.handle], laidTests := true, laidLooks := .later }
def WireMsgsUptoCardSaid : Prop := Claim7.holds Tryd.pinned (.plain (OpenSpec.upto wireMsgsSpec)) wireMsgsUptoCard

/-- THE SECOND FORM's CARD OF 'chainmaillaw.WireLogs'. -/
def wireLogsUptoCard : Claim7 := { stood := { row := wireLogsUptoRow, standIns := [], harness := (true, "0183cea5ea0abe08010a76bf8ef2ffac9008b28ba642843d88cc475104b05e53"), looks := true }, kinds := [], alts := [], laidByText := true, laidKinds := [.handle], laidTests := true, laidLooks := .later }
def WireLogsUptoCardSaid : Prop := Claim7.holds Tryd.pinned (.plain (OpenSpec.upto wireLogsSpec)) wireLogsUptoCard

/-- THE SECOND FORM's CARD OF 'chainmaillaw.WireReads'. -/
def wireReadsUptoCard : Claim7 := { stood := { row := wireReadsUptoRow, standIns := [], harness := (true, "0183cea5ea0abe08010a76bf8ef2ffac9008b28ba642843d88cc475104b05e53"), looks := true }, kinds := [], alts := [], laidByText := true, laidKinds := [.handle], laidTests := true, laidLooks := .later }
def WireReadsUptoCardSaid : Prop := Claim7.holds Tryd.pinned (.plain (OpenSpec.upto wireReadsSpec)) wireReadsUptoCard

/-- THE SECOND FORM's CARD OF 'chainmailkeep.WireBack'. -/
def wireBackUptoCard : Claim7 := { stood := { row := wireBackUptoRow, standIns := [], harness := (true, "0183cea5ea0abe08010a76bf8ef2ffac9008b28ba642843d88cc475104b05e53"), looks := true }, kinds := [], alts := [], laidByText := true, laidKinds := [.handle], laidTests := true, laidLooks := .later }
def WireBackUptoCardSaid : Prop := Claim7.holds Tryd.pinned (.plain (OpenSpec.upto wireBackSpec)) wireBackUptoCard

/-- THE SECOND FORM's CARD OF 'chainmaillaw.NetPlays'. -/
def netPlaysUptoCard : Claim7 := { stood := { row := netPlaysUptoRow, standIns := [], harness := (true, "0183cea5ea0abe08010a76bf8ef2ffac9008b28ba642843d88cc475104b05e53"), looks := true }, kinds := [], alts := [], laidByText := true, laidKinds := [.handle], laidTests := true, laidLooks := .later }
def NetPlaysUptoCardSaid : Prop := Claim7.holds Tryd.pinned (.plain (OpenSpec.upto netPlaysSpec)) netPlaysUptoCard

/-- THE SECOND FORM's CARD OF 'chainmailkeep.MvTrims'. -/
def mvTrimsUptoCard : Claim7 := { stood := { row := mvTrimsUptoRow, standIns := [], harness := (true, "0183cea5ea0abe08010a76bf8ef2ffac9008b28ba642843d88cc475104b05e53"), looks := true }, kinds := [], alts := [], laidByText := true, laidKinds := [.handle], laidTests := true, laidLooks := .later }
def MvTrimsUptoCardSaid : Prop := Claim7.holds Tryd.pinned (.plain (OpenSpec.upto mvTrimsSpec)) mvTrimsUptoCard

/-- THE SECOND FORM's CARD OF 'chainmaillaw.MvPlays'. -/
def mvPlaysUptoCard : Claim7 := { stood := { row := mvPlaysUptoRow, standIns := [], harness := (true, "0183cea5ea0abe08010a76bf8ef2ffac9008b28ba642843d88cc475104b05e53"), looks := true }, kinds := [], alts := [], laidByText := true, laidKinds := [.handle], laidTests := true, laidLooks := .later }
def MvPlaysUptoCardSaid : Prop := Claim7.holds Tryd.pinned (.plain (OpenSpec.upto mvPlaysSpec)) mvPlaysUptoCard

/-- THE SECOND FORM's CARD OF 'chainmaillaw.ChainFills'. -/
def chainFillsUptoCard : Claim7 := { stood := { row := chainFillsUptoRow, standIns := [], harness := (true, "0183cea5ea0abe08010a76bf8ef2ffac9008b28ba642843d88cc475104b05e53"), looks := true }, kinds := [], alts := [], laidByText := true, laidKinds := [.handle], laidTests := true, laidLooks := .later }
def ChainFillsUptoCardSaid : Prop := Claim7.holds Tryd.pinned (.plain (OpenSpec.upto chainFillsSpec)) chainFillsUptoCard

/-- THE SECOND FORM's CARD OF 'chainmaillaw.ChainSteps'. -/
def chainStepsUptoCard : Claim7 := { stood := { row := chainStepsUptoRow, standIns := [], harness := (true, "0183cea5ea0abe08010a76bf8ef2ffac9008b28ba642843d88cc475104b05e53"), looks := true }, kinds := [], alts := [], laidByText := true, laidKinds := [.handle], laidTests := true, laidLooks := .later }
def ChainStepsUptoCardSaid : Prop := Claim7.holds Tryd.pinned (.plain (OpenSpec.upto chainStepsSpec)) chainStepsUptoCard
end Rows
end Go.Proofs.YtefhgakcffhgaaaDoor
