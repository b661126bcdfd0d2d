/-
  DERIVED. GIVEN WITH THE SEED: THE CARDS: each row of YtlhjkjhppjogbaaDoorRows.lean that lists a variable, with what it lists TIED to the program's text (the seventh form; the later family's looks); each row that meets fmt, with fmt's text TOLD by the authors' own Lean function (tested against real Go, not proved from fmt's source: count such statements apart). THE CARD IS WHAT COUNTS. Prove the row's statement (the work); the ties are given (YtlhjkjhppjogbaaDoorTie.lean); close each card by the builder's one call (the guide's Derived/Test/ToyasCard.lean, 'card_holds'). Laid BY PROGRAM, IN A SANDBOX (cutbox-door.mjs). By AI agents, Wed Nov 11 2026. No macro, syntax, notation, axiom, sorry.
-/
import Derived.Test.YtlhjkjhppjogbaaDoorRows
import GoSem.ClaimSeven
namespace Go.Proofs.YtlhjkjhppjogbaaDoor
namespace Rows

/-- THE TIED CARD OF 'laws.FnExactSchemeOf'. -/
def fnExactSchemeOfCard : Claim7 := { stood := { row := fnExactSchemeOfRow, standIns := [], harness := (true, "7ec887eb8e0ef5fd1adc85ac560b0602d65acf1d931b53451ecc300698632b75"), looks := false }, kinds := [], alts := [], laidByText := true, laidKinds := [.data, .pinned, .pinned], laidTests := true, laidLooks := .later }
def FnExactSchemeOfCardSaid : Prop := Claim7.holds Tryd.pinned (.plain (OpenSpec.ofChange fnExactSchemeOfSpec)) fnExactSchemeOfCard

/-- THE SECOND FORM's CARD OF 'laws.FnExactSchemeOf'. -/
def fnExactSchemeOfUptoCard : Claim7 := { stood := { row := fnExactSchemeOfUptoRow, standIns := [], harness := (true, "7ec887eb8e0ef5fd1adc85ac560b0602d65acf1d931b53451ecc300698632b75"), looks := false }, kinds := [], alts := [], laidByText := true, laidKinds := [.data, .pinned, .pinned], laidTests := true, laidLooks := .later }
def FnExactSchemeOfUptoCardSaid : Prop := Claim7.holds Tryd.pinned (.plain (OpenSpec.upto fnExactSchemeOfSpec)) fnExactSchemeOfUptoCard
end Rows
end Go.Proofs.YtlhjkjhppjogbaaDoor
