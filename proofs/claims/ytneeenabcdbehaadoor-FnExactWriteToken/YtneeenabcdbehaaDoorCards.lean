/-
  DERIVED. GIVEN WITH THE SEED: THE CARDS: each row of YtneeenabcdbehaaDoorRows.lean that lists a variable, with what it lists TIED to the program's text (the seventh form; the later family's looks); each row that meets fmt, with fmt's text TOLD by the authors' own Lean function (tested against real Go, not proved from fmt's source: count such statements apart). THE CARD IS WHAT COUNTS. Prove the row's statement (the work); the ties are given (YtneeenabcdbehaaDoorTie.lean); close each card by the builder's one call (the guide's Derived/Test/ToyasCard.lean, 'card_holds'). Laid BY PROGRAM, IN A SANDBOX (cutbox-door.mjs). By AI agents, Wed Nov 11 2026. No macro, syntax, notation, axiom, sorry.
-/
import Derived.Test.YtneeenabcdbehaaDoorRows
import GoSem.ClaimSeven
namespace Go.Proofs.YtneeenabcdbehaaDoor
namespace Rows

/-- THE TIED CARD OF 'laws.FnExactWriteToken'. -/
def fnExactWriteTokenCard : Claim7 := { stood := { row := fnExactWriteTokenRow, standIns := [], harness := (true, "444b916e6857ff0546d16440b690cf136d17a8bb338ccea6caab7800b7324fc8"), looks := false }, kinds := [], alts := [], laidByText := true, laidKinds := [.data], laidTests := true, laidLooks := .later }
def FnExactWriteTokenCardSaid : Prop := Claim7.holds Tryd.pinned (.plain (OpenSpec.ofChange fnExactWriteTokenSpec)) fnExactWriteTokenCard

/-- THE SECOND FORM's CARD OF 'laws.FnExactWriteToken'. -/
def fnExactWriteTokenUptoCard : Claim7 := { stood := { row := fnExactWriteTokenUptoRow, standIns := [], harness := (true, "444b916e6857ff0546d16440b690cf136d17a8bb338ccea6caab7800b7324fc8"), looks := false }, kinds := [], alts := [], laidByText := true, laidKinds := [.data], laidTests := true, laidLooks := .later }
def FnExactWriteTokenUptoCardSaid : Prop := Claim7.holds Tryd.pinned (.plain (OpenSpec.upto fnExactWriteTokenSpec)) fnExactWriteTokenUptoCard
end Rows
end Go.Proofs.YtneeenabcdbehaaDoor
