/-
  DERIVED. GIVEN WITH THE SEED: THE CARDS: each row of YtcjaldjlcnedeaaDoorRows.lean that lists a variable, with what it lists TIED to the program's text (the seventh form; the later family's looks); each row that meets fmt, with fmt's text TOLD by the authors' own Lean function (tested against real Go, not proved from fmt's source: count such statements apart). THE CARD IS WHAT COUNTS. Prove the row's statement (the work); the ties are given (YtcjaldjlcnedeaaDoorTie.lean); close each card by the builder's one call (the guide's Derived/Test/ToyasCard.lean, 'card_holds'). Laid BY PROGRAM, IN A SANDBOX (cutbox-door.mjs). By AI agents, Wed Nov 11 2026. No macro, syntax, notation, axiom, sorry.
-/
import Derived.Test.YtcjaldjlcnedeaaDoorRows
import GoSem.ClaimSeven
namespace Go.Proofs.YtcjaldjlcnedeaaDoor
namespace Rows

/-- THE TIED CARD OF 'laws.FnExactReadTag'. -/
def fnExactReadTagCard : Claim7 := { stood := { row := fnExactReadTagRow, standIns := [], harness := (true, "669faf064fc66d619a91b40a777aec9871758fe565f58c71d39acefb8a02469c"), looks := true }, kinds := [], alts := [], laidByText := true, laidKinds := [.data, .data, .data, .sentinel, .sentinel, .data, .sentinel], laidTests := true, laidLooks := .later }
def FnExactReadTagCardSaid : Prop := Claim7.holds Tryd.pinned (.plain (OpenSpec.ofChange fnExactReadTagSpec)) fnExactReadTagCard

/-- THE TIED CARD OF 'laws.FnExactWriteToken'. -/
def fnExactWriteTokenCard : Claim7 := { stood := { row := fnExactWriteTokenRow, standIns := [], harness := (true, "669faf064fc66d619a91b40a777aec9871758fe565f58c71d39acefb8a02469c"), looks := true }, kinds := [], alts := [], laidByText := true, laidKinds := [.data], laidTests := true, laidLooks := .later }
def FnExactWriteTokenCardSaid : Prop := Claim7.holds Tryd.pinned (.plain (OpenSpec.ofChange fnExactWriteTokenSpec)) fnExactWriteTokenCard

/-- THE SECOND FORM's CARD OF 'laws.FnExactReadTag'. -/
def fnExactReadTagUptoCard : Claim7 := { stood := { row := fnExactReadTagUptoRow, standIns := [], harness := (true, "669faf064fc66d619a91b40a777aec9871758fe565f58c71d39acefb8a02469c"), looks := true }, kinds := [], alts := [], laidByText := true, laidKinds := [.data, .data, .data, .sentinel, .sentinel, .data, .sentinel], laidTests := true, laidLooks := .later }
def FnExactReadTagUptoCardSaid : Prop := Claim7.holds Tryd.pinned (.plain (OpenSpec.upto fnExactReadTagSpec)) fnExactReadTagUptoCard

/-- THE SECOND FORM's CARD OF 'laws.FnExactWriteToken'. -/
def fnExactWriteTokenUptoCard : Claim7 := { stood := { row := fnExactWriteTokenUptoRow, standIns := [], harness := (true, "669faf064fc66d619a91b40a777aec9871758fe565f58c71d39acefb8a02469c"), looks := true }, kinds := [], alts := [], laidByText := true, laidKinds := [.data], laidTests := true, laidLooks := .later }
def FnExactWriteTokenUptoCardSaid : Prop := Claim7.holds Tryd.pinned (.plain (OpenSpec.upto fnExactWriteTokenSpec)) fnExactWriteTokenUptoCard
end Rows
end Go.Proofs.YtcjaldjlcnedeaaDoor
