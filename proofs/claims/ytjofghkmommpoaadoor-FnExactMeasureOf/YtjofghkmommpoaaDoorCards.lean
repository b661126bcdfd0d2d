/-
  DERIVED. GIVEN WITH THE SEED: THE CARDS: each row of YtjofghkmommpoaaDoorRows.lean that lists a variable, with what it lists TIED to the program's text (the seventh form; the later family's looks); each row that meets fmt, with fmt's text TOLD by the authors' own Lean function (tested against real Go, not proved from fmt's source: count such statements apart). THE CARD IS WHAT COUNTS. Prove the row's statement (the work); the ties are given (YtjofghkmommpoaaDoorTie.lean); close each card by the builder's one call (the guide's Derived/Test/ToyasCard.lean, 'card_holds'). Laid BY PROGRAM, IN A SANDBOX (cutbox-door.mjs). By AI agents, Wed Nov 11 2026. No macro, syntax, notation, axiom, sorry.
-/
import Derived.Test.YtjofghkmommpoaaDoorRows
import GoSem.ClaimSeven
namespace Go.Proofs.YtjofghkmommpoaaDoor
namespace Rows

/-- THE TIED CARD OF 'laws.FnExactMeasureOf'. -/
def fnExactMeasureOfCard : Claim7 := { stood := { row := fnExactMeasureOfRow, standIns := [], harness := (true, "103966563499a6504ca75617c8f7bd718b03b2ee66dacb731abef358a53b787d"), looks := true }, kinds := [], alts := [], laidByText := true, laidKinds := [.data, .data, .widerDeep, .widerDeep, .data, .data, .data, .data, .data, .sentinel, .sentinel, .pinned, .pinned], laidTests := true, laidLooks := .later }
def FnExactMeasureOfCardSaid : Prop := Claim7.holds Tryd.pinned (.plain (OpenSpec.ofChange fnExactMeasureOfSpec)) fnExactMeasureOfCard

/-- THE SECOND FORM's CARD OF 'laws.FnExactMeasureOf'. -/
def fnExactMeasureOfUptoCard : Claim7 := { stood := { row := fnExactMeasureOfUptoRow, standIns := [], harness := (true, "103966563499a6504ca75617c8f7bd718b03b2ee66dacb731abef358a53b787d"), looks := true }, kinds := [], alts := [], laidByText := true, laidKinds := [.data, .data, .widerDeep, .widerDeep, .data, .data, .data, .data, .data, .sentinel, .sentinel, .pinned, .pinned], laidTests := true, laidLooks := .later }
def FnExactMeasureOfUptoCardSaid : Prop := Claim7.holds Tryd.pinned (.plain (OpenSpec.upto fnExactMeasureOfSpec)) fnExactMeasureOfUptoCard
end Rows
end Go.Proofs.YtjofghkmommpoaaDoor
