/-
  DERIVED. GIVEN WITH THE SEED: THE CARDS: each row of YthckoaddajpgcahDoorRows.lean that lists a variable, with what it lists TIED to the program's text (the seventh form; the later family's looks); each row that meets fmt, with fmt's text TOLD by the authors' own Lean function (tested against real Go, not proved from fmt's source: count such statements apart). THE CARD IS WHAT COUNTS. Prove the row's statement (the work); the ties are given (YthckoaddajpgcahDoorTie.lean); close each card by the builder's one call (the guide's Derived/Test/ToyasCard.lean, 'card_holds'). Laid BY PROGRAM, IN A SANDBOX (cutbox-door.mjs). By AI agents, Wed Nov 11 2026. No macro, syntax, notation, axiom, sorry.
-/
import Derived.Test.YthckoaddajpgcahDoorRows
import GoSem.ClaimSeven
namespace Go.Proofs.YthckoaddajpgcahDoor
namespace Rows

/-- THE TIED CARD OF 'laws.FnExactRefAt'. -/
def fnExactRefAtCard : Claim7 := { stood := { row := fnExactRefAtRow, standIns := [], harness := (true, "58df92f2809c21b013e114a23d63faf0640857f1b5dbdb64ba9223061e23fd93"), looks := true }, kinds := [], alts := [], laidByText := true, laidKinds := [.data, .data, .data, .sentinel, .sentinel, .data], laidTests := true, laidLooks := .later }
def FnExactRefAtCardSaid : Prop := Claim7.holds Tryd.pinned (.plain (OpenSpec.ofChange fnExactRefAtSpec)) fnExactRefAtCard

/-- THE TIED CARD OF 'laws.FnExactEscapeByte'. -/
def fnExactEscapeByteCard : Claim7 := { stood := { row := fnExactEscapeByteRow, standIns := [], harness := (true, "58df92f2809c21b013e114a23d63faf0640857f1b5dbdb64ba9223061e23fd93"), looks := true }, kinds := [], alts := [], laidByText := true, laidKinds := [.data], laidTests := true, laidLooks := .later }
def FnExactEscapeByteCardSaid : Prop := Claim7.holds Tryd.pinned (.plain (OpenSpec.ofChange fnExactEscapeByteSpec)) fnExactEscapeByteCard

/-- THE TIED CARD OF 'laws.FnExactEscapeText'. -/
def fnExactEscapeTextCard : Claim7 := { stood := { row := fnExactEscapeTextRow, standIns := [], harness := (true, "58df92f2809c21b013e114a23d63faf0640857f1b5dbdb64ba9223061e23fd93"), looks := true }, kinds := [], alts := [], laidByText := true, laidKinds := [.data], laidTests := true, laidLooks := .later }
def FnExactEscapeTextCardSaid : Prop := Claim7.holds Tryd.pinned (.plain (OpenSpec.ofChange fnExactEscapeTextSpec)) fnExactEscapeTextCard

/-- THE TIED CARD OF 'laws.FnExactDecodeText'. -/
def fnExactDecodeTextCard : Claim7 := { stood := { row := fnExactDecodeTextRow, standIns := [], harness := (true, "58df92f2809c21b013e114a23d63faf0640857f1b5dbdb64ba9223061e23fd93"), looks := true }, kinds := [], alts := [], laidByText := true, laidKinds := [.data, .data, .data, .sentinel, .sentinel, .data], laidTests := true, laidLooks := .later }
def FnExactDecodeTextCardSaid : Prop := Claim7.holds Tryd.pinned (.plain (OpenSpec.ofChange fnExactDecodeTextSpec)) fnExactDecodeTextCard

/-- THE SECOND FORM's CARD OF 'laws.FnExactRefAt'. -/
def fnExactRefAtUptoCard : Claim7 := { stood := { row := fnExactRefAtUptoRow, standIns := [], harness := (true, "58df92f2809c21b013e114a23d63faf0640857f1b5dbdb64ba9223061e23fd93"), looks := true }, kinds := [], alts := [], laidByText := true, laidKinds := [.data, .data, .data, .sentinel, .sentinel, .data], laidTests := true, laidLooks := .later }
def FnExactRefAtUptoCardSaid : Prop := Claim7.holds Tryd.pinned (.plain (OpenSpec.upto fnExactRefAtSpec)) fnExactRefAtUptoCard

/-- THE SECOND FORM's CARD OF 'laws.FnExactEscapeByte'. -/
def fnExactEscapeByteUptoCard : Claim7 := { stood := { row := fnExactEscapeByteUptoRow, standIns := [], harness := (true, "58df92f2809c21b013e114a23d63faf0640857f1b5dbdb64ba9223061e23fd93"), looks := true }, kinds := [], alts := [], laidByText := true, laidKinds := [.data], laidTests := true, laidLooks := .later }
def FnExactEscapeByteUptoCardSaid : Prop := Claim7.holds Tryd.pinned (.plain (OpenSpec.upto fnExactEscapeByteSpec)) fnExactEscapeByteUptoCard

/-- THE SECOND FORM's CARD OF 'laws.FnExactEscapeText'. -/
def fnExactEscapeTextUptoCard : Claim7 := { stood := { row := fnExactEscapeTextUptoRow, standIns := [], harness := (true, "58df92f2809c21b013e114a23d63faf0640857f1b5dbdb64ba9223061e23fd93"), looks := true }, kinds := [], alts := [], laidByText := true, laidKinds := [.data], laidTests := true, laidLooks := .later }
def FnExactEscapeTextUptoCardSaid : Prop := Claim7.holds Tryd.pinned (.plain (OpenSpec.upto fnExactEscapeTextSpec)) fnExactEscapeTextUptoCard

/-- THE SECOND FORM's CARD OF 'laws.FnExactDecodeText'. -/
def fnExactDecodeTextUptoCard : Claim7 := { stood := { row := fnExactDecodeTextUptoRow, standIns := [], harness := (true, "58df92f2809c21b013e114a23d63faf0640857f1b5dbdb64ba9223061e23fd93"), looks := true }, kinds := [], alts := [], laidByText := true, laidKinds := [.data, .data, .data, .sentinel, .sentinel, .data], laidTests := true, laidLooks := .later }
def FnExactDecodeTextUptoCardSaid : Prop := Claim7.holds Tryd.pinned (.plain (OpenSpec.upto fnExactDecodeTextSpec)) fnExactDecodeTextUptoCard
end Rows
end Go.Proofs.YthckoaddajpgcahDoor
