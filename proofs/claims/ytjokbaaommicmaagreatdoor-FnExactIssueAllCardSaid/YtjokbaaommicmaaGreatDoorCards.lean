/-
  DERIVED. GIVEN WITH THE SEED: THE CARDS: each row of YtjokbaaommicmaaGreatDoorRows.lean that lists a variable, with what it lists TIED to the program's text (the seventh form; the later family's looks); each row that meets fmt, with fmt's text TOLD by the authors' own Lean function (tested against real Go, not proved from fmt's source: count such statements apart). THE CARD IS WHAT COUNTS. Prove the row's statement (the work); the ties are given (YtjokbaaommicmaaGreatDoorTie.lean); close each card by the builder's one call (the guide's Derived/Test/ToyasCard.lean, 'card_holds'). Laid BY PROGRAM, IN A SANDBOX (cutbox-door.mjs). By AI agents, Wed Nov 11 2026. No macro, syntax, notation, axiom, sorry.
-/
import Derived.Test.YtjokbaaommicmaaGreatDoorRows
import GoSem.ClaimSeven
namespace Go.Proofs.YtjokbaaommicmaaGreatDoor
namespace Rows

/-- THE TIED CARD OF 'laws.FnExactIssue'. -/
def fnExactIssueCard : Claim7 := { stood := { row := fnExactIssueRow, standIns := [], harness := (true, "a54ba733d022e4daba9f26b69fbf3a96ad5c96ae3899d014b350d01da7ca4489"), looks := true }, kinds := [], alts := [], laidByText := true, laidKinds := [.handle, .sentinel, .sentinel, .sentinel, .sentinel], laidTests := true, laidLooks := .later }
def FnExactIssueCardSaid : Prop := Claim7.holds Tryz.pinned (.plain (OpenSpec.ofChange fnExactIssueSpec)) fnExactIssueCard

/-- THE TIED CARD OF 'laws.FnExactIssueAll'. -/
def fnExactIssueAllCard : Claim7 := { stood := { row := fnExactIssueAllRow, standIns := [], harness := (true, "a54ba733d022e4daba9f26b69fbf3a96ad5c96ae3899d014b350d01da7ca4489"), looks := true }, kinds := [], alts := [], laidByText := true, laidKinds := [.handle, .sentinel, .sentinel, .sentinel, .sentinel], laidTests := true, laidLooks := .later }
def FnExactIssueAllCardSaid : Prop := Claim7.holds Tryz.pinned (.plain (OpenSpec.ofChange fnExactIssueAllSpec)) fnExactIssueAllCard

/-- THE TIED CARD OF 'laws.FnIssue'. -/
def fnIssueCard : Claim7 := { stood := { row := fnIssueRow, standIns := [], harness := (true, "a54ba733d022e4daba9f26b69fbf3a96ad5c96ae3899d014b350d01da7ca4489"), looks := true }, kinds := [], alts := [], laidByText := true, laidKinds := [.handle, .sentinel, .sentinel, .sentinel, .sentinel], laidTests := true, laidLooks := .later }
def FnIssueCardSaid : Prop := Claim7.holds Tryz.pinned (.plain (OpenSpec.ofChange fnIssueSpec)) fnIssueCard

/-- THE SECOND FORM's CARD OF 'laws.FnExactIssue'. -/
def fnExactIssueUptoCard : Claim7 := { stood := { row := fnExactIssueUptoRow, standIns := [], harness := (true, "a54ba733d022e4daba9f26b69fbf3a96ad5c96ae3899d014b350d01da7ca4489"), looks := true }, kinds := [], alts := [], laidByText := true, laidKinds := [.handle, .sentinel, .sentinel, .sentinel, .sentinel], laidTests := true, laidLooks := .later }
def FnExactIssueUptoCardSaid : Prop := Claim7.holds Tryz.pinned (.plain (OpenSpec.upto fnExactIssueSpec)) fnExactIssueUptoCard

/-- THE SECOND FORM's CARD OF 'laws.FnExactIssueAll'. -/
def fnExactIssueAllUptoCard : Claim7 := { stood := { row := fnExactIssueAllUptoRow, standIns := [], harness := (true, "a54ba733d022e4daba9f26b69fbf3a96ad5c96ae3899d014b350d01da7ca4489"), looks := true }, kinds := [], alts := [], laidByText := true, laidKinds := [.handle, .sentinel, .sentinel, .sentinel, .sentinel], laidTests := true, laidLooks := .later }
def FnExactIssueAllUptoCardSaid : Prop := Claim7.holds Tryz.pinned (.plain (OpenSpec.upto fnExactIssueAllSpec)) fnExactIssueAllUptoCard

/-- THE SECOND FORM's CARD OF 'laws.FnIssue'. -/
def fnIssueUptoCard : Claim7 := { stood := { row := fnIssueUptoRow, standIns := [], harness := (true, "a54ba733d022e4daba9f26b69fbf3a96ad5c96ae3899d014b350d01da7ca4489"), looks := true }, kinds := [], alts := [], laidByText := true, laidKinds := [.handle, .sentinel, .sentinel, .sentinel, .sentinel], laidTests := true, laidLooks := .later }
def FnIssueUptoCardSaid : Prop := Claim7.holds Tryz.pinned (.plain (OpenSpec.upto fnIssueSpec)) fnIssueUptoCard
end Rows
end Go.Proofs.YtjokbaaommicmaaGreatDoor
