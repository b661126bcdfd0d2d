/-
  DERIVED. GIVEN WITH THE SEED: THE CARDS: each row of YtlmmkmcchfnclaaDoorRows.lean that lists a variable, with what it lists TIED to the program's text (the seventh form; the later family's looks); each row that meets fmt, with fmt's text TOLD by the authors' own Lean function (tested against real Go, not proved from fmt's source: count such statements apart). THE CARD IS WHAT COUNTS. Prove the row's statement (the work); the ties are given (YtlmmkmcchfnclaaDoorTie.lean); close each card by the builder's one call (the guide's Derived/Test/ToyasCard.lean, 'card_holds'). Laid BY PROGRAM, IN A SANDBOX (cutbox-door.mjs). By AI agents, Wed Nov 11 2026. No macro, syntax, notation, axiom, sorry.
-/
import Derived.Test.YtlmmkmcchfnclaaDoorRows
import GoSem.ClaimSeven
namespace Go.Proofs.YtlmmkmcchfnclaaDoor
namespace Rows

/-- THE TIED CARD OF 'laws.FnExactEscapeAll'. -/
def fnExactEscapeAllCard : Claim7 := { stood := { row := fnExactEscapeAllRow, standIns := [], harness := (true, "571ca5279c0828bc286c24988433f115f4a66833d1f9b5d46a398f0da5cc63c6"), looks := true }, kinds := [], alts := [], laidByText := true, laidKinds := [.handle, .data], laidTests := true, laidLooks := .later }
def FnExactEscapeAllCardSaid : Prop := Claim7.holds Tryd.pinned (.plain (OpenSpec.ofChange fnExactEscapeAllSpec)) fnExactEscapeAllCard

/-- THE SECOND FORM's CARD OF 'laws.FnExactEscapeAll'. -/
def fnExactEscapeAllUptoCard : Claim7 := { stood := { row := fnExactEscapeAllUptoRow, standIns := [], harness := (true, "571ca5279c0828bc286c24988433f115f4a66833d1f9b5d46a398f0da5cc63c6"), looks := true }, kinds := [], alts := [], laidByText := true, laidKinds := [.handle, .data], laidTests := true, laidLooks := .later }
def FnExactEscapeAllUptoCardSaid : Prop := Claim7.holds Tryd.pinned (.plain (OpenSpec.upto fnExactEscapeAllSpec)) fnExactEscapeAllUptoCard
end Rows
end Go.Proofs.YtlmmkmcchfnclaaDoor
