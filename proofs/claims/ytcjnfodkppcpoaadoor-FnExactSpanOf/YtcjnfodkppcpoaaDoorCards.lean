/-
  DERIVED. GIVEN WITH THE SEED: THE CARDS: each row of YtcjnfodkppcpoaaDoorRows.lean that lists a variable, with what it lists TIED to the program's text (the seventh form; the later family's looks); each row that meets fmt, with fmt's text TOLD by the authors' own Lean function (tested against real Go, not proved from fmt's source: count such statements apart). THE CARD IS WHAT COUNTS. Prove the row's statement (the work); the ties are given (YtcjnfodkppcpoaaDoorTie.lean); close each card by the builder's one call (the guide's Derived/Test/ToyasCard.lean, 'card_holds'). Laid BY PROGRAM, IN A SANDBOX (cutbox-door.mjs). By AI agents, Wed Nov 11 2026. No macro, syntax, notation, axiom, sorry.
-/
import Derived.Test.YtcjnfodkppcpoaaDoorRows
import GoSem.ClaimSeven
namespace Go.Proofs.YtcjnfodkppcpoaaDoor
namespace Rows

/-- THE TIED CARD OF 'laws.FnExactWriteTree'. -/
def fnExactWriteTreeCard : Claim7 := { stood := { row := fnExactWriteTreeRow, standIns := [], harness := (true, "0da919c0708d85047b517b50f43f0b0fa742757ca8d33f3c4e07c21a7543c679"), looks := false }, kinds := [], alts := [], laidByText := true, laidKinds := [.data], laidTests := true, laidLooks := .later }
def FnExactWriteTreeCardSaid : Prop := Claim7.holds Tryd.pinned (.plain (OpenSpec.ofChange fnExactWriteTreeSpec)) fnExactWriteTreeCard

/-- THE TIED CARD OF 'laws.FnExactWriteNode'. -/
def fnExactWriteNodeCard : Claim7 := { stood := { row := fnExactWriteNodeRow, standIns := [], harness := (true, "0da919c0708d85047b517b50f43f0b0fa742757ca8d33f3c4e07c21a7543c679"), looks := false }, kinds := [], alts := [], laidByText := true, laidKinds := [.data], laidTests := true, laidLooks := .later }
def FnExactWriteNodeCardSaid : Prop := Claim7.holds Tryd.pinned (.plain (OpenSpec.ofChange fnExactWriteNodeSpec)) fnExactWriteNodeCard

/-- THE TIED CARD OF 'laws.FnExactSpanOf'. -/
def fnExactSpanOfCard : Claim7 := { stood := { row := fnExactSpanOfRow, standIns := [], harness := (true, "0da919c0708d85047b517b50f43f0b0fa742757ca8d33f3c4e07c21a7543c679"), looks := false }, kinds := [], alts := [], laidByText := true, laidKinds := [.data], laidTests := true, laidLooks := .later }
def FnExactSpanOfCardSaid : Prop := Claim7.holds Tryd.pinned (.plain (OpenSpec.ofChange fnExactSpanOfSpec)) fnExactSpanOfCard

/-- THE SECOND FORM's CARD OF 'laws.FnExactWriteTree'. -/
def fnExactWriteTreeUptoCard : Claim7 := { stood := { row := fnExactWriteTreeUptoRow, standIns := [], harness := (true, "0da919c0708d85047b517b50f43f0b0fa742757ca8d33f3c4e07c21a7543c679"), looks := false }, kinds := [], alts := [], laidByText := true, laidKinds := [.data], laidTests := true, laidLooks := .later }
def FnExactWriteTreeUptoCardSaid : Prop := Claim7.holds Tryd.pinned (.plain (OpenSpec.upto fnExactWriteTreeSpec)) fnExactWriteTreeUptoCard

/-- THE SECOND FORM's CARD OF 'laws.FnExactWriteNode'. -/
def fnExactWriteNodeUptoCard : Claim7 := { stood := { row := fnExactWriteNodeUptoRow, standIns := [], harness := (true, "0da919c0708d85047b517b50f43f0b0fa742757ca8d33f3c4e07c21a7543c679"), looks := false }, kinds := [], alts := [], laidByText := true, laidKinds := [.data], laidTests := true, laidLooks := .later }
def FnExactWriteNodeUptoCardSaid : Prop := Claim7.holds Tryd.pinned (.plain (OpenSpec.upto fnExactWriteNodeSpec)) fnExactWriteNodeUptoCard

/-- THE SECOND FORM's CARD OF 'laws.FnExactSpanOf'. -/
def fnExactSpanOfUptoCard : Claim7 := { stood := { row := fnExactSpanOfUptoRow, standIns := [], harness := (true, "0da919c0708d85047b517b50f43f0b0fa742757ca8d33f3c4e07c21a7543c679"), looks := false }, kinds := [], alts := [], laidByText := true, laidKinds := [.data], laidTests := true, laidLooks := .later }
def FnExactSpanOfUptoCardSaid : Prop := Claim7.holds Tryd.pinned (.plain (OpenSpec.upto fnExactSpanOfSpec)) fnExactSpanOfUptoCard
end Rows
end Go.Proofs.YtcjnfodkppcpoaaDoor
