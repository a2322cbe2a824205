/-
  DERIVED. GIVEN WITH THE SEED: THE CARDS: each row of YtbnfmgbailfbgaaDoorRows.lean that lists a variable, with what it lists TIED to the program's text (the seventh form; the later family's looks); each row that meets fmt, with fmt's text TOLD by the authors' own Lean function (tested against real Go, not proved from fmt's source: count such statements apart). THE CARD IS WHAT COUNTS. Prove the row's statement (the work); the ties are given (YtbnfmgbailfbgaaDoorTie.lean); close each card by the builder's one call (the guide's Derived/Test/ToyasCard.lean, 'card_holds'). Laid BY PROGRAM, IN A SANDBOX (cutbox-door.mjs). By AI agents, Wed Nov 11 2026. No macro, syntax, notation, axiom, sorry.
-/
import Derived.Test.YtbnfmgbailfbgaaDoorRows
import GoSem.ClaimSeven
namespace Go.Proofs.YtbnfmgbailfbgaaDoor
namespace Rows

/-- THE TIED CARD OF 'laws.FnVars'. -/
def fnVarsCard : Claim7 := { stood := { row := fnVarsRow, standIns := [], harness := (true, "1ccd183b53eaac8edae316ef642e360337edb94f3a9b55a3ae470adf57e5b1bd"), looks := false }, kinds := [], alts := [], laidByText := true, laidKinds := [.sentinel], laidTests := true, laidLooks := .later }
def FnVarsCardSaid : Prop := Claim7.holds Tryd.pinned (.plain (OpenSpec.ofChange fnVarsSpec)) fnVarsCard

/-- THE TIED CARD OF 'laws.FnTexts'. -/
def fnTextsCard : Claim7 := { stood := { row := fnTextsRow, standIns := [], harness := (true, "1ccd183b53eaac8edae316ef642e360337edb94f3a9b55a3ae470adf57e5b1bd"), looks := false }, kinds := [], alts := [], laidByText := true, laidKinds := [.sentinel], laidTests := true, laidLooks := .later }
def FnTextsCardSaid : Prop := Claim7.holds Tryd.pinned (.plain (OpenSpec.ofChange fnTextsSpec)) fnTextsCard

/-- THE TIED CARD OF 'laws.FnExactReadVar'. -/
def fnExactReadVarCard : Claim7 := { stood := { row := fnExactReadVarRow, standIns := [], harness := (true, "1ccd183b53eaac8edae316ef642e360337edb94f3a9b55a3ae470adf57e5b1bd"), looks := false }, kinds := [], alts := [], laidByText := true, laidKinds := [.sentinel], laidTests := true, laidLooks := .later }
def FnExactReadVarCardSaid : Prop := Claim7.holds Tryd.pinned (.plain (OpenSpec.ofChange fnExactReadVarSpec)) fnExactReadVarCard

/-- THE TIED CARD OF 'laws.FnExactReadText'. -/
def fnExactReadTextCard : Claim7 := { stood := { row := fnExactReadTextRow, standIns := [], harness := (true, "1ccd183b53eaac8edae316ef642e360337edb94f3a9b55a3ae470adf57e5b1bd"), looks := false }, kinds := [], alts := [], laidByText := true, laidKinds := [.sentinel], laidTests := true, laidLooks := .later }
def FnExactReadTextCardSaid : Prop := Claim7.holds Tryd.pinned (.plain (OpenSpec.ofChange fnExactReadTextSpec)) fnExactReadTextCard

/-- THE SECOND FORM's CARD OF 'laws.FnVars'. -/
def fnVarsUptoCard : Claim7 := { stood := { row := fnVarsUptoRow, standIns := [], harness := (true, "1ccd183b53eaac8edae316ef642e360337edb94f3a9b55a3ae470adf57e5b1bd"), looks := false }, kinds := [], alts := [], laidByText := true, laidKinds := [.sentinel], laidTests := true, laidLooks := .later }
def FnVarsUptoCardSaid : Prop := Claim7.holds Tryd.pinned (.plain (OpenSpec.upto fnVarsSpec)) fnVarsUptoCard

/-- THE SECOND FORM's CARD OF 'laws.FnTexts'. -/
def fnTextsUptoCard : Claim7 := { stood := { row := fnTextsUptoRow, standIns := [], harness := (true, "1ccd183b53eaac8edae316ef642e360337edb94f3a9b55a3ae470adf57e5b1bd"), looks := false }, kinds := [], alts := [], laidByText := true, laidKinds := [.sentinel], laidTests := true, laidLooks := .later }
def FnTextsUptoCardSaid : Prop := Claim7.holds Tryd.pinned (.plain (OpenSpec.upto fnTextsSpec)) fnTextsUptoCard

/-- THE SECOND FORM's CARD OF 'laws.FnExactReadVar'. -/
def fnExactReadVarUptoCard : Claim7 := { stood := { row := fnExactReadVarUptoRow, standIns := [], harness := (true, "1ccd183b53eaac8edae316ef642e360337edb94f3a9b55a3ae470adf57e5b1bd"), looks := false }, kinds := [], alts := [], laidByText := true, laidKinds := [.sentinel], laidTests := true, laidLooks := .later }
def FnExactReadVarUptoCardSaid : Prop := Claim7.holds Tryd.pinned (.plain (OpenSpec.upto fnExactReadVarSpec)) fnExactReadVarUptoCard

/-- THE SECOND FORM's CARD OF 'laws.FnExactReadText'. -/
def fnExactReadTextUptoCard : Claim7 := { stood := { row := fnExactReadTextUptoRow, standIns := [], harness := (true, "1ccd183b53eaac8edae316ef642e360337edb94f3a9b55a3ae470adf57e5b1bd"), looks := false }, kinds := [], alts := [], laidByText := true, laidKinds := [.sentinel], laidTests := true, laidLooks := .later }
def FnExactReadTextUptoCardSaid : Prop := Claim7.holds Tryd.pinned (.plain (OpenSpec.upto fnExactReadTextSpec)) fnExactReadTextUptoCard
end Rows
end Go.Proofs.YtbnfmgbailfbgaaDoor
