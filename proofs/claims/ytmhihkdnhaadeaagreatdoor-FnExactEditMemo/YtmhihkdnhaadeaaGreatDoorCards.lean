/-
  DERIVED. GIVEN WITH THE SEED: THE CARDS: each row of YtmhihkdnhaadeaaGreatDoorRows.lean that lists a variable, with what it lists TIED to the program's text (the seventh form; the later family's looks); each row that meets fmt, with fmt's text TOLD by the authors' own Lean function (tested against real Go, not proved from fmt's source: count such statements apart). THE CARD IS WHAT COUNTS. Prove the row's statement (the work); the ties are given (YtmhihkdnhaadeaaGreatDoorTie.lean); close each card by the builder's one call (the guide's Derived/Test/ToyasCard.lean, 'card_holds'). Laid BY PROGRAM, IN A SANDBOX (cutbox-door.mjs). By AI agents, Wed Nov 11 2026. No macro, syntax, notation, axiom, sorry.
-/
import Derived.Test.YtmhihkdnhaadeaaGreatDoorRows
import GoSem.ClaimSeven
namespace Go.Proofs.YtmhihkdnhaadeaaGreatDoor
namespace Rows

/-- THE TIED CARD OF 'laws.FnExactMeetOf'. -/
def fnExactMeetOfCard : Claim7 := { stood := { row := fnExactMeetOfRow, standIns := [], harness := (true, "a3bea0ad31b2177721bf8ce1508ed083dbf7dffb317c762d859c87a72fac3d28"), looks := true }, kinds := [], alts := [], laidByText := true, laidKinds := [.data, .data, .data, .sentinel, .sentinel, .data, .sentinel], laidTests := true, laidLooks := .later }
def FnExactMeetOfCardSaid : Prop := Claim7.holds Tryz.pinned (.plain (OpenSpec.ofChange fnExactMeetOfSpec)) fnExactMeetOfCard

/-- THE TIED CARD OF 'laws.FnExactEditMemo'. -/
def fnExactEditMemoCard : Claim7 := { stood := { row := fnExactEditMemoRow, standIns := [], harness := (true, "a3bea0ad31b2177721bf8ce1508ed083dbf7dffb317c762d859c87a72fac3d28"), looks := true }, kinds := [], alts := [], laidByText := true, laidKinds := [.data, .data, .data, .sentinel, .sentinel, .data, .sentinel], laidTests := true, laidLooks := .later }
def FnExactEditMemoCardSaid : Prop := Claim7.holds Tryz.pinned (.plain (OpenSpec.ofChange fnExactEditMemoSpec)) fnExactEditMemoCard

/-- THE SECOND FORM's CARD OF 'laws.FnExactMeetOf'. -/
def fnExactMeetOfUptoCard : Claim7 := { stood := { row := fnExactMeetOfUptoRow, standIns := [], harness := (true, "a3bea0ad31b2177721bf8ce1508ed083dbf7dffb317c762d859c87a72fac3d28"), looks := true }, kinds := [], alts := [], laidByText := true, laidKinds := [.data, .data, .data, .sentinel, .sentinel, .data, .sentinel], laidTests := true, laidLooks := .later }
def FnExactMeetOfUptoCardSaid : Prop := Claim7.holds Tryz.pinned (.plain (OpenSpec.upto fnExactMeetOfSpec)) fnExactMeetOfUptoCard

/-- THE SECOND FORM's CARD OF 'laws.FnExactEditMemo'. -/
def fnExactEditMemoUptoCard : Claim7 := { stood := { row := fnExactEditMemoUptoRow, standIns := [], harness := (true, "a3bea0ad31b2177721bf8ce1508ed083dbf7dffb317c762d859c87a72fac3d28"), looks := true }, kinds := [], alts := [], laidByText := true, laidKinds := [.data, .data, .data, .sentinel, .sentinel, .data, .sentinel], laidTests := true, laidLooks := .later }
def FnExactEditMemoUptoCardSaid : Prop := Claim7.holds Tryz.pinned (.plain (OpenSpec.upto fnExactEditMemoSpec)) fnExactEditMemoUptoCard
end Rows
end Go.Proofs.YtmhihkdnhaadeaaGreatDoor
