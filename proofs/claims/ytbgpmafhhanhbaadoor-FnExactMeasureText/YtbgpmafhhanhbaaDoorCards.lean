/-
  DERIVED. GIVEN WITH THE SEED: THE CARDS: each row of YtbgpmafhhanhbaaDoorRows.lean that lists a variable, with what it lists TIED to the program's text (the seventh form; the later family's looks); each row that meets fmt, with fmt's text TOLD by the authors' own Lean function (tested against real Go, not proved from fmt's source: count such statements apart). THE CARD IS WHAT COUNTS. Prove the row's statement (the work); the ties are given (YtbgpmafhhanhbaaDoorTie.lean); close each card by the builder's one call (the guide's Derived/Test/ToyasCard.lean, 'card_holds'). Laid BY PROGRAM, IN A SANDBOX (cutbox-door.mjs). By AI agents, Wed Nov 11 2026. No macro, syntax, notation, axiom, sorry.
-/
import Derived.Test.YtbgpmafhhanhbaaDoorRows
import GoSem.ClaimSeven
namespace Go.Proofs.YtbgpmafhhanhbaaDoor
namespace Rows

/-- THE TIED CARD OF 'laws.FnExactMeasureOf'. -/
def fnExactMeasureOfCard : Claim7 := { stood := { row := fnExactMeasureOfRow, standIns := [], harness := (true, "bda52b03dfe9891fb2fb3bf50b75a332787c90fae4500414f027640f572b4e05"), looks := true }, kinds := [], alts := [], laidByText := true, laidKinds := [.data, .data, .widerDeep, .widerDeep, .data, .data, .data, .data, .data, .sentinel, .sentinel, .pinned, .pinned], laidTests := true, laidLooks := .later }
def FnExactMeasureOfCardSaid : Prop := Claim7.holds Tryd.pinned (.plain (OpenSpec.ofChange fnExactMeasureOfSpec)) fnExactMeasureOfCard

/-- THE TIED CARD OF 'laws.FnExactMeasureText'. -/
def fnExactMeasureTextCard : Claim7 := { stood := { row := fnExactMeasureTextRow, standIns := [], harness := (true, "bda52b03dfe9891fb2fb3bf50b75a332787c90fae4500414f027640f572b4e05"), looks := true }, kinds := [], alts := [], laidByText := true, laidKinds := [.data, .data, .data, .data, .pinned, .pinned], laidTests := true, laidLooks := .later }
def FnExactMeasureTextCardSaid : Prop := Claim7.holds Tryd.pinned (.plain (OpenSpec.ofChange fnExactMeasureTextSpec)) fnExactMeasureTextCard

/-- THE SECOND FORM's CARD OF 'laws.FnExactMeasureOf'. -/
def fnExactMeasureOfUptoCard : Claim7 := { stood := { row := fnExactMeasureOfUptoRow, standIns := [], harness := (true, "bda52b03dfe9891fb2fb3bf50b75a332787c90fae4500414f027640f572b4e05"), looks := true }, kinds := [], alts := [], laidByText := true, laidKinds := [.data, .data, .widerDeep, .widerDeep, .data, .data, .data, .data, .data, .sentinel, .sentinel, .pinned, .pinned], laidTests := true, laidLooks := .later }
def FnExactMeasureOfUptoCardSaid : Prop := Claim7.holds Tryd.pinned (.plain (OpenSpec.upto fnExactMeasureOfSpec)) fnExactMeasureOfUptoCard

/-- THE SECOND FORM's CARD OF 'laws.FnExactMeasureText'. -/
def fnExactMeasureTextUptoCard : Claim7 := { stood := { row := fnExactMeasureTextUptoRow, standIns := [], harness := (true, "bda52b03dfe9891fb2fb3bf50b75a332787c90fae4500414f027640f572b4e05"), looks := true }, kinds := [], alts := [], laidByText := true, laidKinds := [.data, .data, .data, .data, .pinned, .pinned], laidTests := true, laidLooks := .later }
def FnExactMeasureTextUptoCardSaid : Prop := Claim7.holds Tryd.pinned (.plain (OpenSpec.upto fnExactMeasureTextSpec)) fnExactMeasureTextUptoCard
end Rows
end Go.Proofs.YtbgpmafhhanhbaaDoor
