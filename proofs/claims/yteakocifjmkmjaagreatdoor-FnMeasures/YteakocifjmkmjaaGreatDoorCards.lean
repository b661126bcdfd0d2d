/-
  DERIVED. GIVEN WITH THE SEED: THE CARDS: each row of YteakocifjmkmjaaGreatDoorRows.lean that lists a variable, with what it lists TIED to the program's text (the seventh form; the later family's looks); each row that meets fmt, with fmt's text TOLD by the authors' own Lean function (tested against real Go, not proved from fmt's source: count such statements apart). THE CARD IS WHAT COUNTS. Prove the row's statement (the work); the ties are given (YteakocifjmkmjaaGreatDoorTie.lean); close each card by the builder's one call (the guide's Derived/Test/ToyasCard.lean, 'card_holds'). Laid BY PROGRAM, IN A SANDBOX (cutbox-door.mjs). By AI agents, Wed Nov 11 2026. No macro, syntax, notation, axiom, sorry.
-/
import Derived.Test.YteakocifjmkmjaaGreatDoorRows
import GoSem.ClaimSeven
namespace Go.Proofs.YteakocifjmkmjaaGreatDoor
namespace Rows

/-- THE TIED CARD OF 'laws.FnMeasures'. -/
def fnMeasuresCard : Claim7 := { stood := { row := fnMeasuresRow, standIns := [], harness := (true, "469a3074cc208b3eb593c901b536d8edac9e09cc671fb88d83226420fad8a5ea"), looks := true }, kinds := [], alts := [], laidByText := true, laidKinds := [.data, .data, .widerDeep, .widerDeep, .data, .data, .data, .data, .data, .sentinel, .sentinel, .pinned, .pinned], laidTests := true, laidLooks := .later }
def FnMeasuresCardSaid : Prop := Claim7.holds Tryz.pinned (.plain (OpenSpec.ofChange fnMeasuresSpec)) fnMeasuresCard

/-- THE TIED CARD OF 'laws.FnWidths'. -/
def fnWidthsCard : Claim7 := { stood := { row := fnWidthsRow, standIns := [], harness := (true, "469a3074cc208b3eb593c901b536d8edac9e09cc671fb88d83226420fad8a5ea"), looks := true }, kinds := [], alts := [], laidByText := true, laidKinds := [.data, .data, .widerDeep, .widerDeep, .data, .data, .data, .data, .data, .sentinel, .sentinel, .pinned, .pinned], laidTests := true, laidLooks := .later }
def FnWidthsCardSaid : Prop := Claim7.holds Tryz.pinned (.plain (OpenSpec.ofChange fnWidthsSpec)) fnWidthsCard

/-- THE SECOND FORM's CARD OF 'laws.FnMeasures'. -/
def fnMeasuresUptoCard : Claim7 := { stood := { row := fnMeasuresUptoRow, standIns := [], harness := (true, "469a3074cc208b3eb593c901b536d8edac9e09cc671fb88d83226420fad8a5ea"), looks := true }, kinds := [], alts := [], laidByText := true, laidKinds := [.data, .data, .widerDeep, .widerDeep, .data, .data, .data, .data, .data, .sentinel, .sentinel, .pinned, .pinned], laidTests := true, laidLooks := .later }
def FnMeasuresUptoCardSaid : Prop := Claim7.holds Tryz.pinned (.plain (OpenSpec.upto fnMeasuresSpec)) fnMeasuresUptoCard

/-- THE SECOND FORM's CARD OF 'laws.FnWidths'. -/
def fnWidthsUptoCard : Claim7 := { stood := { row := fnWidthsUptoRow, standIns := [], harness := (true, "469a3074cc208b3eb593c901b536d8edac9e09cc671fb88d83226420fad8a5ea"), looks := true }, kinds := [], alts := [], laidByText := true, laidKinds := [.data, .data, .widerDeep, .widerDeep, .data, .data, .data, .data, .data, .sentinel, .sentinel, .pinned, .pinned], laidTests := true, laidLooks := .later }
def FnWidthsUptoCardSaid : Prop := Claim7.holds Tryz.pinned (.plain (OpenSpec.upto fnWidthsSpec)) fnWidthsUptoCard
end Rows
end Go.Proofs.YteakocifjmkmjaaGreatDoor
