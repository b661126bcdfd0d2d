/-
  DERIVED. GIVEN WITH THE SEED: THE CARDS: each row of YtkiinnmindmnbaaGreatDoorRows.lean that lists a variable, with what it lists TIED to the program's text (the seventh form; the later family's looks); each row that meets fmt, with fmt's text TOLD by the authors' own Lean function (tested against real Go, not proved from fmt's source: count such statements apart). THE CARD IS WHAT COUNTS. Prove the row's statement (the work); the ties are given (YtkiinnmindmnbaaGreatDoorTie.lean); close each card by the builder's one call (the guide's Derived/Test/ToyasCard.lean, 'card_holds'). Laid BY PROGRAM, IN A SANDBOX (cutbox-door.mjs). By AI agents, Wed Nov 11 2026. No macro, syntax, notation, axiom, sorry.
-/
import Derived.Test.YtkiinnmindmnbaaGreatDoorRows
import GoSem.ClaimSeven
namespace Go.Proofs.YtkiinnmindmnbaaGreatDoor
namespace Rows

/-- THE TIED CARD OF 'laws.FnExactNewMemo'. -/
def fnExactNewMemoCard : Claim7 := { stood := { row := fnExactNewMemoRow, standIns := [], harness := (true, "b63b2cb727afa47c715f7dcc21a8f342c539c4778b8d45592f5db213c9a4b529"), looks := true }, kinds := [], alts := [], laidByText := true, laidKinds := [.data, .data, .data, .sentinel, .sentinel, .data, .sentinel], laidTests := true, laidLooks := .later }
def FnExactNewMemoCardSaid : Prop := Claim7.holds Tryz.pinned (.plain (OpenSpec.ofChange fnExactNewMemoSpec)) fnExactNewMemoCard

/-- THE TIED CARD OF 'laws.FnExactMemoFault'. -/
def fnExactMemoFaultCard : Claim7 := { stood := { row := fnExactMemoFaultRow, standIns := [], harness := (true, "b63b2cb727afa47c715f7dcc21a8f342c539c4778b8d45592f5db213c9a4b529"), looks := true }, kinds := [], alts := [], laidByText := true, laidKinds := [.data, .data, .data, .sentinel, .sentinel, .data, .sentinel], laidTests := true, laidLooks := .later }
def FnExactMemoFaultCardSaid : Prop := Claim7.holds Tryz.pinned (.plain (OpenSpec.ofChange fnExactMemoFaultSpec)) fnExactMemoFaultCard

/-- THE TIED CARD OF 'laws.FnExactLastCheck'. -/
def fnExactLastCheckCard : Claim7 := { stood := { row := fnExactLastCheckRow, standIns := [], harness := (true, "b63b2cb727afa47c715f7dcc21a8f342c539c4778b8d45592f5db213c9a4b529"), looks := true }, kinds := [], alts := [], laidByText := true, laidKinds := [.data, .data, .data, .sentinel, .sentinel, .data, .sentinel], laidTests := true, laidLooks := .later }
def FnExactLastCheckCardSaid : Prop := Claim7.holds Tryz.pinned (.plain (OpenSpec.ofChange fnExactLastCheckSpec)) fnExactLastCheckCard

/-- THE TIED CARD OF 'laws.FnExactTokensOf'. -/
def fnExactTokensOfCard : Claim7 := { stood := { row := fnExactTokensOfRow, standIns := [], harness := (true, "b63b2cb727afa47c715f7dcc21a8f342c539c4778b8d45592f5db213c9a4b529"), looks := true }, kinds := [], alts := [], laidByText := true, laidKinds := [.data, .data, .data, .sentinel, .sentinel, .data, .sentinel], laidTests := true, laidLooks := .later }
def FnExactTokensOfCardSaid : Prop := Claim7.holds Tryz.pinned (.plain (OpenSpec.ofChange fnExactTokensOfSpec)) fnExactTokensOfCard

/-- THE SECOND FORM's CARD OF 'laws.FnExactNewMemo'. -/
def fnExactNewMemoUptoCard : Claim7 := { stood := { row := fnExactNewMemoUptoRow, standIns := [], harness := (true, "b63b2cb727afa47c715f7dcc21a8f342c539c4778b8d45592f5db213c9a4b529"), looks := true }, kinds := [], alts := [], laidByText := true, laidKinds := [.data, .data, .data, .sentinel, .sentinel, .data, .sentinel], laidTests := true, laidLooks := .later }
def FnExactNewMemoUptoCardSaid : Prop := Claim7.holds Tryz.pinned (.plain (OpenSpec.upto fnExactNewMemoSpec)) fnExactNewMemoUptoCard

/-- THE SECOND FORM's CARD OF 'laws.FnExactMemoFault'. -/
def fnExactMemoFaultUptoCard : Claim7 := { stood := { row := fnExactMemoFaultUptoRow, standIns := [], harness := (true, "b63b2cb727afa47c715f7dcc21a8f342c539c4778b8d45592f5db213c9a4b529"), looks := true }, kinds := [], alts := [], laidByText := true, laidKinds := [.data, .data, .data, .sentinel, .sentinel, .data, .sentinel], laidTests := true, laidLooks := .later }
def FnExactMemoFaultUptoCardSaid : Prop := Claim7.holds Tryz.pinned (.plain (OpenSpec.upto fnExactMemoFaultSpec)) fnExactMemoFaultUptoCard

/-- THE SECOND FORM's CARD OF 'laws.FnExactLastCheck'. -/
def fnExactLastCheckUptoCard : Claim7 := { stood := { row := fnExactLastCheckUptoRow, standIns := [], harness := (true, "b63b2cb727afa47c715f7dcc21a8f342c539c4778b8d45592f5db213c9a4b529"), looks := true }, kinds := [], alts := [], laidByText := true, laidKinds := [.data, .data, .data, .sentinel, .sentinel, .data, .sentinel], laidTests := true, laidLooks := .later }
def FnExactLastCheckUptoCardSaid : Prop := Claim7.holds Tryz.pinned (.plain (OpenSpec.upto fnExactLastCheckSpec)) fnExactLastCheckUptoCard

/-- THE SECOND FORM's CARD OF 'laws.FnExactTokensOf'. -/
def fnExactTokensOfUptoCard : Claim7 := { stood := { row := fnExactTokensOfUptoRow, standIns := [], harness := (true, "b63b2cb727afa47c715f7dcc21a8f342c539c4778b8d45592f5db213c9a4b529"), looks := true }, kinds := [], alts := [], laidByText := true, laidKinds := [.data, .data, .data, .sentinel, .sentinel, .data, .sentinel], laidTests := true, laidLooks := .later }
def FnExactTokensOfUptoCardSaid : Prop := Claim7.holds Tryz.pinned (.plain (OpenSpec.upto fnExactTokensOfSpec)) fnExactTokensOfUptoCard
end Rows
end Go.Proofs.YtkiinnmindmnbaaGreatDoor
