/-
  DERIVED. GIVEN WITH THE SEED: THE CARDS: each row of YthkagbnpcjidfaaGreatDoorRows.lean that lists a variable, with what it lists TIED to the program's text (the seventh form; the later family's looks); each row that meets fmt, with fmt's text TOLD by the authors' own Lean function (tested against real Go, not proved from fmt's source: count such statements apart). THE CARD IS WHAT COUNTS. Prove the row's statement (the work); the ties are given (YthkagbnpcjidfaaGreatDoorTie.lean); close each card by the builder's one call (the guide's Derived/Test/ToyasCard.lean, 'card_holds'). Laid BY PROGRAM, IN A SANDBOX (cutbox-door.mjs). By AI agents, Wed Nov 11 2026. No macro, syntax, notation, axiom, sorry.
-/
import Derived.Test.YthkagbnpcjidfaaGreatDoorRows
import GoSem.ClaimSeven
namespace Go.Proofs.YthkagbnpcjidfaaGreatDoor
namespace Rows

/-- THE TIED CARD OF 'laws.FnIssue'. -/
def fnIssueCard : Claim7 := { stood := { row := fnIssueRow, standIns := [], harness := (true, "55258e6d81bb28ce2bcfc4c24e2a7338e36b6f6352b89e56f7cb84846f06ae64"), looks := true }, kinds := [], alts := [], laidByText := true, laidKinds := [.handle, .sentinel, .sentinel, .sentinel, .sentinel], laidTests := true, laidLooks := .later }
def FnIssueCardSaid : Prop := Claim7.holds Tryz.pinned (.plain (OpenSpec.ofChange fnIssueSpec)) fnIssueCard

/-- THE TIED CARD OF 'laws.FnEffect'. -/
def fnEffectCard : Claim7 := { stood := { row := fnEffectRow, standIns := [], harness := (true, "55258e6d81bb28ce2bcfc4c24e2a7338e36b6f6352b89e56f7cb84846f06ae64"), looks := true }, kinds := [], alts := [], laidByText := true, laidKinds := [.handle, .sentinel, .sentinel, .sentinel, .sentinel], laidTests := true, laidLooks := .later }
def FnEffectCardSaid : Prop := Claim7.holds Tryz.pinned (.plain (OpenSpec.ofChange fnEffectSpec)) fnEffectCard

/-- THE TIED CARD OF 'laws.FnOthers'. -/
def fnOthersCard : Claim7 := { stood := { row := fnOthersRow, standIns := [], harness := (true, "55258e6d81bb28ce2bcfc4c24e2a7338e36b6f6352b89e56f7cb84846f06ae64"), looks := true }, kinds := [], alts := [], laidByText := true, laidKinds := [.handle, .sentinel, .sentinel, .sentinel, .sentinel], laidTests := true, laidLooks := .later }
def FnOthersCardSaid : Prop := Claim7.holds Tryz.pinned (.plain (OpenSpec.ofChange fnOthersSpec)) fnOthersCard

/-- THE TIED CARD OF 'laws.FnUndone'. -/
def fnUndoneCard : Claim7 := { stood := { row := fnUndoneRow, standIns := [], harness := (true, "55258e6d81bb28ce2bcfc4c24e2a7338e36b6f6352b89e56f7cb84846f06ae64"), looks := true }, kinds := [], alts := [], laidByText := true, laidKinds := [.handle, .sentinel, .sentinel, .sentinel, .sentinel], laidTests := true, laidLooks := .later }
def FnUndoneCardSaid : Prop := Claim7.holds Tryz.pinned (.plain (OpenSpec.ofChange fnUndoneSpec)) fnUndoneCard

/-- THE TIED CARD OF 'laws.FnClear'. -/
def fnClearCard : Claim7 := { stood := { row := fnClearRow, standIns := [], harness := (true, "55258e6d81bb28ce2bcfc4c24e2a7338e36b6f6352b89e56f7cb84846f06ae64"), looks := true }, kinds := [], alts := [], laidByText := true, laidKinds := [.handle, .sentinel, .sentinel, .sentinel, .sentinel], laidTests := true, laidLooks := .later }
def FnClearCardSaid : Prop := Claim7.holds Tryz.pinned (.plain (OpenSpec.ofChange fnClearSpec)) fnClearCard

/-- THE TIED CARD OF 'laws.FnSetTwice'. -/
def fnSetTwiceCard : Claim7 := { stood := { row := fnSetTwiceRow, standIns := [], harness := (true, "55258e6d81bb28ce2bcfc4c24e2a7338e36b6f6352b89e56f7cb84846f06ae64"), looks := true }, kinds := [], alts := [], laidByText := true, laidKinds := [.handle, .sentinel, .sentinel, .sentinel, .sentinel], laidTests := true, laidLooks := .later }
def FnSetTwiceCardSaid : Prop := Claim7.holds Tryz.pinned (.plain (OpenSpec.ofChange fnSetTwiceSpec)) fnSetTwiceCard

/-- THE TIED CARD OF 'laws.FnUndoOwn'. -/
def fnUndoOwnCard : Claim7 := { stood := { row := fnUndoOwnRow, standIns := [], harness := (true, "55258e6d81bb28ce2bcfc4c24e2a7338e36b6f6352b89e56f7cb84846f06ae64"), looks := true }, kinds := [], alts := [], laidByText := true, laidKinds := [.handle, .sentinel, .sentinel, .sentinel, .sentinel], laidTests := true, laidLooks := .later }
def FnUndoOwnCardSaid : Prop := Claim7.holds Tryz.pinned (.plain (OpenSpec.ofChange fnUndoOwnSpec)) fnUndoOwnCard

/-- THE TIED CARD OF 'laws.FnNewest'. -/
def fnNewestCard : Claim7 := { stood := { row := fnNewestRow, standIns := [], harness := (true, "55258e6d81bb28ce2bcfc4c24e2a7338e36b6f6352b89e56f7cb84846f06ae64"), looks := true }, kinds := [], alts := [], laidByText := true, laidKinds := [.handle, .sentinel, .sentinel, .sentinel, .sentinel], laidTests := true, laidLooks := .later }
def FnNewestCardSaid : Prop := Claim7.holds Tryz.pinned (.plain (OpenSpec.ofChange fnNewestSpec)) fnNewestCard

/-- THE TIED CARD OF 'laws.FnAllUndone'. -/
def fnAllUndoneCard : Claim7 := { stood := { row := fnAllUndoneRow, standIns := [], harness := (true, "55258e6d81bb28ce2bcfc4c24e2a7338e36b6f6352b89e56f7cb84846f06ae64"), looks := true }, kinds := [], alts := [], laidByText := true, laidKinds := [.handle, .sentinel, .sentinel, .sentinel, .sentinel], laidTests := true, laidLooks := .later }
def FnAllUndoneCardSaid : Prop := Claim7.holds Tryz.pinned (.plain (OpenSpec.ofChange fnAllUndoneSpec)) fnAllUndoneCard

/-- THE TIED CARD OF 'laws.FnSaveBack'. -/
def fnSaveBackCard : Claim7 := { stood := { row := fnSaveBackRow, standIns := [], harness := (true, "55258e6d81bb28ce2bcfc4c24e2a7338e36b6f6352b89e56f7cb84846f06ae64"), looks := true }, kinds := [], alts := [], laidByText := true, laidKinds := [.handle, .sentinel, .sentinel, .sentinel, .sentinel], laidTests := true, laidLooks := .later }
def FnSaveBackCardSaid : Prop := Claim7.holds Tryz.pinned (.plain (OpenSpec.ofChange fnSaveBackSpec)) fnSaveBackCard

/-- THE TIED CARD OF 'laws.FnRemoveAdd'. -/
def fnRemoveAddCard : Claim7 := { stood := { row := fnRemoveAddRow, standIns := [], harness := (true, "55258e6d81bb28ce2bcfc4c24e2a7338e36b6f6352b89e56f7cb84846f06ae64"), looks := true }, kinds := [], alts := [], laidByText := true, laidKinds := [.handle, .sentinel, .sentinel, .sentinel, .sentinel], laidTests := true, laidLooks := .later }
def FnRemoveAddCardSaid : Prop := Claim7.holds Tryz.pinned (.plain (OpenSpec.ofChange fnRemoveAddSpec)) fnRemoveAddCard

/-- THE TIED CARD OF 'laws.FnToggledTwice'. -/
def fnToggledTwiceCard : Claim7 := { stood := { row := fnToggledTwiceRow, standIns := [], harness := (true, "55258e6d81bb28ce2bcfc4c24e2a7338e36b6f6352b89e56f7cb84846f06ae64"), looks := true }, kinds := [], alts := [], laidByText := true, laidKinds := [.handle, .sentinel, .sentinel, .sentinel, .sentinel], laidTests := true, laidLooks := .later }
def FnToggledTwiceCardSaid : Prop := Claim7.holds Tryz.pinned (.plain (OpenSpec.ofChange fnToggledTwiceSpec)) fnToggledTwiceCard

/-- THE SECOND FORM's CARD OF 'laws.FnIssue'. -/
def fnIssueUptoCard : Claim7 := { stood := { row := fnIssueUptoRow, standIns := [], harness := (true, "55258e6d81bb28ce2bcfc4c24e2a7338e36b6f6352b89e56f7cb84846f06ae64"), looks := true }, kinds := [], alts := [], laidByText := true, laidKinds := [.handle, .sentinel, .sentinel, .sentinel, .sentinel], laidTests := true, laidLooks := .later }
def FnIssueUptoCardSaid : Prop := Claim7.holds Tryz.pinned (.plain (OpenSpec.upto fnIssueSpec)) fnIssueUptoCard

/-- THE SECOND FORM's CARD OF 'laws.FnEffect'. -/
def fnEffectUptoCard : Claim7 := { stood := { row := fnEffectUptoRow, standIns := [], harness := (true, "55258e6d81bb28ce2bcfc4c24e2a7338e36b6f6352b89e56f7cb84846f06ae64"), looks := true }, kinds := [], alts := [], laidByText := true, laidKinds := [.handle, .sentinel, .sentinel, .sentinel, .sentinel], laidTests := true, laidLooks := .later }
def FnEffectUptoCardSaid : Prop := Claim7.holds Tryz.pinned (.plain (OpenSpec.upto fnEffectSpec)) fnEffectUptoCard

/-- THE SECOND FORM's CARD OF 'laws.FnOthers'. -/
def fnOthersUptoCard : Claim7 := { stood := { row := fnOthersUptoRow, standIns := [], harness := (true, "55258e6d81bb28ce2bcfc4c24e2a7338e36b6f6352b89e56f7cb84846f06ae64"), looks := true }, kinds := [], alts := [], laidByText := true, laidKinds := [.handle, .sentinel, .sentinel, .sentinel, .sentinel], laidTests := true, laidLooks := .later }
def FnOthersUptoCardSaid : Prop := Claim7.holds Tryz.pinned (.plain (OpenSpec.upto fnOthersSpec)) fnOthersUptoCard

/-- THE SECOND FORM's CARD OF 'laws.FnUndone'. -/
def fnUndoneUptoCard : Claim7 := { stood := { row := fnUndoneUptoRow, standIns := [], harness := (true, "55258e6d81bb28ce2bcfc4c24e2a7338e36b6f6352b89e56f7cb84846f06ae64"), looks := true }, kinds := [], alts := [], laidByText := true, laidKinds := [.handle, .sentinel, .sentinel, .sentinel, .sentinel], laidTests := true, laidLooks := .later }
def FnUndoneUptoCardSaid : Prop := Claim7.holds Tryz.pinned (.plain (OpenSpec.upto fnUndoneSpec)) fnUndoneUptoCard

/-- THE SECOND FORM's CARD OF 'laws.FnClear'. -/
def fnClearUptoCard : Claim7 := { stood := { row := fnClearUptoRow, standIns := [], harness := (true, "55258e6d81bb28ce2bcfc4c24e2a7338e36b6f6352b89e56f7cb84846f06ae64"), looks := true }, kinds := [], alts := [], laidByText := true, laidKinds := [.handle, .sentinel, .sentinel, .sentinel, .sentinel], laidTests := true, laidLooks := .later }
def FnClearUptoCardSaid : Prop := Claim7.holds Tryz.pinned (.plain (OpenSpec.upto fnClearSpec)) fnClearUptoCard

/-- THE SECOND FORM's CARD OF 'laws.FnSetTwice'. -/
def fnSetTwiceUptoCard : Claim7 := { stood := { row := fnSetTwiceUptoRow, standIns := [], harness := (true, "55258e6d81bb28ce2bcfc4c24e2a7338e36b6f6352b89e56f7cb84846f06ae64"), looks := true }, kinds := [], alts := [], laidByText := true, laidKinds := [.handle, .sentinel, .sentinel, .sentinel, .sentinel], laidTests := true, laidLooks := .later }
def FnSetTwiceUptoCardSaid : Prop := Claim7.holds Tryz.pinned (.plain (OpenSpec.upto fnSetTwiceSpec)) fnSetTwiceUptoCard

/-- THE SECOND FORM's CARD OF 'laws.FnUndoOwn'. -/
def fnUndoOwnUptoCard : Claim7 := { stood := { row := fnUndoOwnUptoRow, standIns := [], harness := (true, "55258e6d81bb28ce2bcfc4c24e2a7338e36b6f6352b89e56f7cb84846f06ae64"), looks := true }, kinds := [], alts := [], laidByText := true, laidKinds := [.handle, .sentinel, .sentinel, .sentinel, .sentinel], laidTests := true, laidLooks := .later }
def FnUndoOwnUptoCardSaid : Prop := Claim7.holds Tryz.pinned (.plain (OpenSpec.upto fnUndoOwnSpec)) fnUndoOwnUptoCard

/-- THE SECOND FORM's CARD OF 'laws.FnNewest'. -/
def fnNewestUptoCard : Claim7 := { stood := { row := fnNewestUptoRow, standIns := [], harness := (true, "55258e6d81bb28ce2bcfc4c24e2a7338e36b6f6352b89e56f7cb84846f06ae64"), looks := true }, kinds := [], alts := [], laidByText := true, laidKinds := [.handle, .sentinel, .sentinel, .sentinel, .sentinel], laidTests := true, laidLooks := .later }
def FnNewestUptoCardSaid : Prop := Claim7.holds Tryz.pinned (.plain (OpenSpec.upto fnNewestSpec)) fnNewestUptoCard

/-- THE SECOND FORM's CARD OF 'laws.FnAllUndone'. -/
def fnAllUndoneUptoCard : Claim7 := { stood := { row := fnAllUndoneUptoRow, standIns := [], harness := (true, "55258e6d81bb28ce2bcfc4c24e2a7338e36b6f6352b89e56f7cb84846f06ae64"), looks := true }, kinds := [], alts := [], laidByText := true, laidKinds := [.handle, .sentinel, .sentinel, .sentinel, .sentinel], laidTests := true, laidLooks := .later }
def FnAllUndoneUptoCardSaid : Prop := Claim7.holds Tryz.pinned (.plain (OpenSpec.upto fnAllUndoneSpec)) fnAllUndoneUptoCard

/-- THE SECOND FORM's CARD OF 'laws.FnSaveBack'. -/
def fnSaveBackUptoCard : Claim7 := { stood := { row := fnSaveBackUptoRow, standIns := [], harness := (true, "55258e6d81bb28ce2bcfc4c24e2a7338e36b6f6352b89e56f7cb84846f06ae64"), looks := true }, kinds := [], alts := [], laidByText := true, laidKinds := [.handle, .sentinel, .sentinel, .sentinel, .sentinel], laidTests := true, laidLooks := .later }
def FnSaveBackUptoCardSaid : Prop := Claim7.holds Tryz.pinned (.plain (OpenSpec.upto fnSaveBackSpec)) fnSaveBackUptoCard

/-- THE SECOND FORM's CARD OF 'laws.FnRemoveAdd'. -/
def fnRemoveAddUptoCard : Claim7 := { stood := { row := fnRemoveAddUptoRow, standIns := [], harness := (true, "55258e6d81bb28ce2bcfc4c24e2a7338e36b6f6352b89e56f7cb84846f06ae64"), looks := true }, kinds := [], alts := [], laidByText := true, laidKinds := [.handle, .sentinel, .sentinel, .sentinel, .sentinel], laidTests := true, laidLooks := .later }
def FnRemoveAddUptoCardSaid : Prop := Claim7.holds Tryz.pinned (.plain (OpenSpec.upto fnRemoveAddSpec)) fnRemoveAddUptoCard

/-- THE SECOND FORM's CARD OF 'laws.FnToggledTwice'. -/
def fnToggledTwiceUptoCard : Claim7 := { stood := { row := fnToggledTwiceUptoRow, standIns := [], harness := (true, "55258e6d81bb28ce2bcfc4c24e2a7338e36b6f6352b89e56f7cb84846f06ae64"), looks := true }, kinds := [], alts := [], laidByText := true, laidKinds := [.handle, .sentinel, .sentinel, .sentinel, .sentinel], laidTests := true, laidLooks := .later }
def FnToggledTwiceUptoCardSaid : Prop := Claim7.holds Tryz.pinned (.plain (OpenSpec.upto fnToggledTwiceSpec)) fnToggledTwiceUptoCard
end Rows
end Go.Proofs.YthkagbnpcjidfaaGreatDoor
