/-
  DERIVED. GIVEN WITH THE SEED: THE CARDS: each row of YtdloogkjnjklcaaGreatDoorRows.lean that lists a variable, with what it lists TIED to the program's text (the seventh form; the later family's looks); each row that meets fmt, with fmt's text TOLD by the authors' own Lean function (tested against real Go, not proved from fmt's source: count such statements apart). THE CARD IS WHAT COUNTS. Prove the row's statement (the work); the ties are given (YtdloogkjnjklcaaGreatDoorTie.lean); close each card by the builder's one call (the guide's Derived/Test/ToyasCard.lean, 'card_holds'). Laid BY PROGRAM, IN A SANDBOX (cutbox-door.mjs). By AI agents, Wed Nov 11 2026. No macro, syntax, notation, axiom, sorry.
-/
import Derived.Test.YtdloogkjnjklcaaGreatDoorRows
import GoSem.ClaimSeven
namespace Go.Proofs.YtdloogkjnjklcaaGreatDoor
namespace Rows

/-- THE TIED CARD OF 'laws.FnExactNewMemo'. -/
def fnExactNewMemoCard : Claim7 := { stood := { row := fnExactNewMemoRow, standIns := [], harness := (true, "70820a9fd417f0bf361137ee4394c41e2838e0d88e30fd62f305cbcf85af8fd3"), looks := true }, kinds := [], alts := [], laidByText := true, laidKinds := [.data, .data, .data, .sentinel, .sentinel, .data, .sentinel], laidTests := true, laidLooks := .later }
def FnExactNewMemoCardSaid : Prop := Claim7.holds Tryz.pinned (.plain (OpenSpec.ofChange fnExactNewMemoSpec)) fnExactNewMemoCard

/-- THE TIED CARD OF 'laws.FnExactEditMemo'. -/
def fnExactEditMemoCard : Claim7 := { stood := { row := fnExactEditMemoRow, standIns := [], harness := (true, "70820a9fd417f0bf361137ee4394c41e2838e0d88e30fd62f305cbcf85af8fd3"), looks := true }, kinds := [], alts := [], laidByText := true, laidKinds := [.data, .data, .data, .sentinel, .sentinel, .data, .sentinel], laidTests := true, laidLooks := .later }
def FnExactEditMemoCardSaid : Prop := Claim7.holds Tryz.pinned (.plain (OpenSpec.ofChange fnExactEditMemoSpec)) fnExactEditMemoCard

/-- THE TIED CARD OF 'laws.FnExactReadBound'. -/
def fnExactReadBoundCard : Claim7 := { stood := { row := fnExactReadBoundRow, standIns := [], harness := (true, "70820a9fd417f0bf361137ee4394c41e2838e0d88e30fd62f305cbcf85af8fd3"), looks := true }, kinds := [], alts := [], laidByText := true, laidKinds := [.data, .data, .data, .sentinel, .sentinel, .data, .sentinel], laidTests := true, laidLooks := .later }
def FnExactReadBoundCardSaid : Prop := Claim7.holds Tryz.pinned (.plain (OpenSpec.ofChange fnExactReadBoundSpec)) fnExactReadBoundCard

/-- THE TIED CARD OF 'laws.FnExactMeetOf'. -/
def fnExactMeetOfCard : Claim7 := { stood := { row := fnExactMeetOfRow, standIns := [], harness := (true, "70820a9fd417f0bf361137ee4394c41e2838e0d88e30fd62f305cbcf85af8fd3"), looks := true }, kinds := [], alts := [], laidByText := true, laidKinds := [.data, .data, .data, .sentinel, .sentinel, .data, .sentinel], laidTests := true, laidLooks := .later }
def FnExactMeetOfCardSaid : Prop := Claim7.holds Tryz.pinned (.plain (OpenSpec.ofChange fnExactMeetOfSpec)) fnExactMeetOfCard

/-- THE SECOND FORM's CARD OF 'laws.FnExactNewMemo'. -/
def fnExactNewMemoUptoCard : Claim7 := { stood := { row := fnExactNewMemoUptoRow, standIns := [], harness := (true, "70820a9fd417f0bf361137ee4394c41e2838e0d88e30fd62f305cbcf85af8fd3"), looks := true }, kinds := [], alts := [], laidByText := true, laidKinds := [.data, .data, .data, .sentinel, .sentinel, .data, .sentinel], laidTests := true, laidLooks := .later }
def FnExactNewMemoUptoCardSaid : Prop := Claim7.holds Tryz.pinned (.plain (OpenSpec.upto fnExactNewMemoSpec)) fnExactNewMemoUptoCard

/-- THE SECOND FORM's CARD OF 'laws.FnExactEditMemo'. -/
def fnExactEditMemoUptoCard : Claim7 := { stood := { row := fnExactEditMemoUptoRow, standIns := [], harness := (true, "70820a9fd417f0bf361137ee4394c41e2838e0d88e30fd62f305cbcf85af8fd3"), looks := true }, kinds := [], alts := [], laidByText := true, laidKinds := [.data, .data, .data, .sentinel, .sentinel, .data, .sentinel], laidTests := true, laidLooks := .later }
def FnExactEditMemoUptoCardSaid : Prop := Claim7.holds Tryz.pinned (.plain (OpenSpec.upto fnExactEditMemoSpec)) fnExactEditMemoUptoCard

/-- THE SECOND FORM's CARD OF 'laws.FnExactReadBound'. -/
def fnExactReadBoundUptoCard : Claim7 := { stood := { row := fnExactReadBoundUptoRow, standIns := [], harness := (true, "70820a9fd417f0bf361137ee4394c41e2838e0d88e30fd62f305cbcf85af8fd3"), looks := true }, kinds := [], alts := [], laidByText := true, laidKinds := [.data, .data, .data, .sentinel, .sentinel, .data, .sentinel], laidTests := true, laidLooks := .later }
def FnExactReadBoundUptoCardSaid : Prop := Claim7.holds Tryz.pinned (.plain (OpenSpec.upto fnExactReadBoundSpec)) fnExactReadBoundUptoCard

/-- THE SECOND FORM's CARD OF 'laws.FnExactMeetOf'. -/
def fnExactMeetOfUptoCard : Claim7 := { stood := { row := fnExactMeetOfUptoRow, standIns := [], harness := (true, "70820a9fd417f0bf361137ee4394c41e2838e0d88e30fd62f305cbcf85af8fd3"), looks := true }, kinds := [], alts := [], laidByText := true, laidKinds := [.data, .data, .data, .sentinel, .sentinel, .data, .sentinel], laidTests := true, laidLooks := .later }
def FnExactMeetOfUptoCardSaid : Prop := Claim7.holds Tryz.pinned (.plain (OpenSpec.upto fnExactMeetOfSpec)) fnExactMeetOfUptoCard
end Rows
end Go.Proofs.YtdloogkjnjklcaaGreatDoor
