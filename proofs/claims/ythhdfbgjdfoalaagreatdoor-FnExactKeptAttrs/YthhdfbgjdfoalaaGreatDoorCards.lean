/-
  DERIVED. GIVEN WITH THE SEED: THE CARDS: each row of YthhdfbgjdfoalaaGreatDoorRows.lean that lists a variable, with what it lists TIED to the program's text (the seventh form; the later family's looks); each row that meets fmt, with fmt's text TOLD by the authors' own Lean function (tested against real Go, not proved from fmt's source: count such statements apart). THE CARD IS WHAT COUNTS. Prove the row's statement (the work); the ties are given (YthhdfbgjdfoalaaGreatDoorTie.lean); close each card by the builder's one call (the guide's Derived/Test/ToyasCard.lean, 'card_holds'). Laid BY PROGRAM, IN A SANDBOX (cutbox-door.mjs). By AI agents, Wed Nov 11 2026. No macro, syntax, notation, axiom, sorry.
-/
import Derived.Test.YthhdfbgjdfoalaaGreatDoorRows
import GoSem.ClaimSeven
namespace Go.Proofs.YthhdfbgjdfoalaaGreatDoor
namespace Rows

/-- THE TIED CARD OF 'laws.FnExactKeptAttrs'. -/
def fnExactKeptAttrsCard : Claim7 := { stood := { row := fnExactKeptAttrsRow, standIns := [], harness := (true, "ddec118037c4910d929e077a08f07a2f82afa0d02c9b2c74ec3171adc30ad3b8"), looks := true }, kinds := [], alts := [], laidByText := true, laidKinds := [.data, .data, .widerDeep, .widerDeep, .data, .data, .data, .data, .data, .data, .sentinel, .sentinel, .pinned, .pinned, .pinned, .pinned], laidTests := true, laidLooks := .later }
def FnExactKeptAttrsCardSaid : Prop := Claim7.holds Tryz.pinned (.plain (OpenSpec.ofChange fnExactKeptAttrsSpec)) fnExactKeptAttrsCard

/-- THE TIED CARD OF 'laws.FnExactIsAllowed'. -/
def fnExactIsAllowedCard : Claim7 := { stood := { row := fnExactIsAllowedRow, standIns := [], harness := (true, "ddec118037c4910d929e077a08f07a2f82afa0d02c9b2c74ec3171adc30ad3b8"), looks := true }, kinds := [], alts := [], laidByText := true, laidKinds := [.data, .data, .widerDeep, .widerDeep, .data, .data, .data, .data, .data, .data, .sentinel, .sentinel, .pinned, .pinned, .pinned, .pinned], laidTests := true, laidLooks := .later }
def FnExactIsAllowedCardSaid : Prop := Claim7.holds Tryz.pinned (.plain (OpenSpec.ofChange fnExactIsAllowedSpec)) fnExactIsAllowedCard

/-- THE SECOND FORM's CARD OF 'laws.FnExactKeptAttrs'. -/
def fnExactKeptAttrsUptoCard : Claim7 := { stood := { row := fnExactKeptAttrsUptoRow, standIns := [], harness := (true, "ddec118037c4910d929e077a08f07a2f82afa0d02c9b2c74ec3171adc30ad3b8"), looks := true }, kinds := [], alts := [], laidByText := true, laidKinds := [.data, .data, .widerDeep, .widerDeep, .data, .data, .data, .data, .data, .data, .sentinel, .sentinel, .pinned, .pinned, .pinned, .pinned], laidTests := true, laidLooks := .later }
def FnExactKeptAttrsUptoCardSaid : Prop := Claim7.holds Tryz.pinned (.plain (OpenSpec.upto fnExactKeptAttrsSpec)) fnExactKeptAttrsUptoCard

/-- THE SECOND FORM's CARD OF 'laws.FnExactIsAllowed'. -/
def fnExactIsAllowedUptoCard : Claim7 := { stood := { row := fnExactIsAllowedUptoRow, standIns := [], harness := (true, "ddec118037c4910d929e077a08f07a2f82afa0d02c9b2c74ec3171adc30ad3b8"), looks := true }, kinds := [], alts := [], laidByText := true, laidKinds := [.data, .data, .widerDeep, .widerDeep, .data, .data, .data, .data, .data, .data, .sentinel, .sentinel, .pinned, .pinned, .pinned, .pinned], laidTests := true, laidLooks := .later }
def FnExactIsAllowedUptoCardSaid : Prop := Claim7.holds Tryz.pinned (.plain (OpenSpec.upto fnExactIsAllowedSpec)) fnExactIsAllowedUptoCard
end Rows
end Go.Proofs.YthhdfbgjdfoalaaGreatDoor
