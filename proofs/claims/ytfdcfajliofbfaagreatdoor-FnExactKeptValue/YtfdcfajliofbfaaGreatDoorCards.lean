/-
  DERIVED. GIVEN WITH THE SEED: THE CARDS: each row of YtfdcfajliofbfaaGreatDoorRows.lean that lists a variable, with what it lists TIED to the program's text (the seventh form; the later family's looks); each row that meets fmt, with fmt's text TOLD by the authors' own Lean function (tested against real Go, not proved from fmt's source: count such statements apart). THE CARD IS WHAT COUNTS. Prove the row's statement (the work); the ties are given (YtfdcfajliofbfaaGreatDoorTie.lean); close each card by the builder's one call (the guide's Derived/Test/ToyasCard.lean, 'card_holds'). Laid BY PROGRAM, IN A SANDBOX (cutbox-door.mjs). By AI agents, Wed Nov 11 2026. No macro, syntax, notation, axiom, sorry.
-/
import Derived.Test.YtfdcfajliofbfaaGreatDoorRows
import GoSem.ClaimSeven
namespace Go.Proofs.YtfdcfajliofbfaaGreatDoor
namespace Rows

/-- THE TIED CARD OF 'laws.FnExactWidthText'. -/
def fnExactWidthTextCard : Claim7 := { stood := { row := fnExactWidthTextRow, standIns := [], harness := (true, "02153ede21a2c0a85c3d320b9b51ee18148c492697b8e3b4cbab47fa42f427d1"), looks := true }, kinds := [], alts := [], laidByText := true, laidKinds := [.data, .data, .widerDeep, .widerDeep, .data, .data, .data, .data, .data, .sentinel, .sentinel, .pinned, .pinned], laidTests := true, laidLooks := .later }
def FnExactWidthTextCardSaid : Prop := Claim7.holds Tryz.pinned (.plain (OpenSpec.ofChange fnExactWidthTextSpec)) fnExactWidthTextCard

/-- THE TIED CARD OF 'laws.FnExactKeptValue'. -/
def fnExactKeptValueCard : Claim7 := { stood := { row := fnExactKeptValueRow, standIns := [], harness := (true, "02153ede21a2c0a85c3d320b9b51ee18148c492697b8e3b4cbab47fa42f427d1"), looks := true }, kinds := [], alts := [], laidByText := true, laidKinds := [.data, .data, .widerDeep, .widerDeep, .data, .data, .data, .data, .data, .data, .sentinel, .sentinel, .pinned, .pinned, .pinned, .pinned], laidTests := true, laidLooks := .later }
def FnExactKeptValueCardSaid : Prop := Claim7.holds Tryz.pinned (.plain (OpenSpec.ofChange fnExactKeptValueSpec)) fnExactKeptValueCard

/-- THE TIED CARD OF 'laws.FnExactMayValue'. -/
def fnExactMayValueCard : Claim7 := { stood := { row := fnExactMayValueRow, standIns := [], harness := (true, "02153ede21a2c0a85c3d320b9b51ee18148c492697b8e3b4cbab47fa42f427d1"), looks := true }, kinds := [], alts := [], laidByText := true, laidKinds := [.data, .data, .widerDeep, .widerDeep, .data, .data, .data, .data, .data, .data, .sentinel, .sentinel, .pinned, .pinned, .pinned, .pinned], laidTests := true, laidLooks := .later }
def FnExactMayValueCardSaid : Prop := Claim7.holds Tryz.pinned (.plain (OpenSpec.ofChange fnExactMayValueSpec)) fnExactMayValueCard

/-- THE TIED CARD OF 'laws.FnExactKeptAttrs'. -/
def fnExactKeptAttrsCard : Claim7 := { stood := { row := fnExactKeptAttrsRow, standIns := [], harness := (true, "02153ede21a2c0a85c3d320b9b51ee18148c492697b8e3b4cbab47fa42f427d1"), looks := true }, kinds := [], alts := [], laidByText := true, laidKinds := [.data, .data, .widerDeep, .widerDeep, .data, .data, .data, .data, .data, .data, .sentinel, .sentinel, .pinned, .pinned, .pinned, .pinned], laidTests := true, laidLooks := .later }
def FnExactKeptAttrsCardSaid : Prop := Claim7.holds Tryz.pinned (.plain (OpenSpec.ofChange fnExactKeptAttrsSpec)) fnExactKeptAttrsCard

/-- THE TIED CARD OF 'laws.FnExactIsAllowed'. -/
def fnExactIsAllowedCard : Claim7 := { stood := { row := fnExactIsAllowedRow, standIns := [], harness := (true, "02153ede21a2c0a85c3d320b9b51ee18148c492697b8e3b4cbab47fa42f427d1"), looks := true }, kinds := [], alts := [], laidByText := true, laidKinds := [.data, .data, .widerDeep, .widerDeep, .data, .data, .data, .data, .data, .data, .sentinel, .sentinel, .pinned, .pinned, .pinned, .pinned], laidTests := true, laidLooks := .later }
def FnExactIsAllowedCardSaid : Prop := Claim7.holds Tryz.pinned (.plain (OpenSpec.ofChange fnExactIsAllowedSpec)) fnExactIsAllowedCard

/-- THE SECOND FORM's CARD OF 'laws.FnExactWidthText'. -/
def fnExactWidthTextUptoCard : Claim7 := { stood := { row := fnExactWidthTextUptoRow, standIns := [], harness := (true, "02153ede21a2c0a85c3d320b9b51ee18148c492697b8e3b4cbab47fa42f427d1"), looks := true }, kinds := [], alts := [], laidByText := true, laidKinds := [.data, .data, .widerDeep, .widerDeep, .data, .data, .data, .data, .data, .sentinel, .sentinel, .pinned, .pinned], laidTests := true, laidLooks := .later }
def FnExactWidthTextUptoCardSaid : Prop := Claim7.holds Tryz.pinned (.plain (OpenSpec.upto fnExactWidthTextSpec)) fnExactWidthTextUptoCard

/-- THE SECOND FORM's CARD OF 'laws.FnExactKeptValue'. -/
def fnExactKeptValueUptoCard : Claim7 := { stood := { row := fnExactKeptValueUptoRow, standIns := [], harness := (true, "02153ede21a2c0a85c3d320b9b51ee18148c492697b8e3b4cbab47fa42f427d1"), looks := true }, kinds := [], alts := [], laidByText := true, laidKinds := [.data, .data, .widerDeep, .widerDeep, .data, .data, .data, .data, .data, .data, .sentinel, .sentinel, .pinned, .pinned, .pinned, .pinned], laidTests := true, laidLooks := .later }
def FnExactKeptValueUptoCardSaid : Prop := Claim7.holds Tryz.pinned (.plain (OpenSpec.upto fnExactKeptValueSpec)) fnExactKeptValueUptoCard

/-- THE SECOND FORM's CARD OF 'laws.FnExactMayValue'. -/
def fnExactMayValueUptoCard : Claim7 := { stood := { row := fnExactMayValueUptoRow, standIns := [], harness := (true, "02153ede21a2c0a85c3d320b9b51ee18148c492697b8e3b4cbab47fa42f427d1"), looks := true }, kinds := [], alts := [], laidByText := true, laidKinds := [.data, .data, .widerDeep, .widerDeep, .data, .data, .data, .data, .data, .data, .sentinel, .sentinel, .pinned, .pinned, .pinned, .pinned], laidTests := true, laidLooks := .later }
def FnExactMayValueUptoCardSaid : Prop := Claim7.holds Tryz.pinned (.plain (OpenSpec.upto fnExactMayValueSpec)) fnExactMayValueUptoCard

/-- THE SECOND FORM's CARD OF 'laws.FnExactKeptAttrs'. -/
def fnExactKeptAttrsUptoCard : Claim7 := { stood := { row := fnExactKeptAttrsUptoRow, standIns := [], harness := (true, "02153ede21a2c0a85c3d320b9b51ee18148c492697b8e3b4cbab47fa42f427d1"), looks := true }, kinds := [], alts := [], laidByText := true, laidKinds := [.data, .data, .widerDeep, .widerDeep, .data, .data, .data, .data, .data, .data, .sentinel, .sentinel, .pinned, .pinned, .pinned, .pinned], laidTests := true, laidLooks := .later }
def FnExactKeptAttrsUptoCardSaid : Prop := Claim7.holds Tryz.pinned (.plain (OpenSpec.upto fnExactKeptAttrsSpec)) fnExactKeptAttrsUptoCard

/-- THE SECOND FORM's CARD OF 'laws.FnExactIsAllowed'. -/
def fnExactIsAllowedUptoCard : Claim7 := { stood := { row := fnExactIsAllowedUptoRow, standIns := [], harness := (true, "02153ede21a2c0a85c3d320b9b51ee18148c492697b8e3b4cbab47fa42f427d1"), looks := true }, kinds := [], alts := [], laidByText := true, laidKinds := [.data, .data, .widerDeep, .widerDeep, .data, .data, .data, .data, .data, .data, .sentinel, .sentinel, .pinned, .pinned, .pinned, .pinned], laidTests := true, laidLooks := .later }
def FnExactIsAllowedUptoCardSaid : Prop := Claim7.holds Tryz.pinned (.plain (OpenSpec.upto fnExactIsAllowedSpec)) fnExactIsAllowedUptoCard
end Rows
end Go.Proofs.YtfdcfajliofbfaaGreatDoor
