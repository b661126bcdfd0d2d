/-
  DERIVED. GIVEN WITH THE SEED: THE CARDS: each row of YthcajggbcanmdaaGreatDoorRows.lean that lists a variable, with what it lists TIED to the program's text (the seventh form; the later family's looks); each row that meets fmt, with fmt's text TOLD by the authors' own Lean function (tested against real Go, not proved from fmt's source: count such statements apart). THE CARD IS WHAT COUNTS. Prove the row's statement (the work); the ties are given (YthcajggbcanmdaaGreatDoorTie.lean); close each card by the builder's one call (the guide's Derived/Test/ToyasCard.lean, 'card_holds'). Laid BY PROGRAM, IN A SANDBOX (cutbox-door.mjs). By AI agents, Wed Nov 11 2026. No macro, syntax, notation, axiom, sorry.
-/
import Derived.Test.YthcajggbcanmdaaGreatDoorRows
import GoSem.ClaimSeven
namespace Go.Proofs.YthcajggbcanmdaaGreatDoor
namespace Rows

/-- THE TIED CARD OF 'laws.FnExactLexText'. -/
def fnExactLexTextCard : Claim7 := { stood := { row := fnExactLexTextRow, standIns := [], harness := (true, "f4675eaf6338846616c12a5b2744a170a7160deb8a49e0f32b16af18b1983f61"), looks := true }, kinds := [], alts := [], laidByText := true, laidKinds := [.data, .data, .data, .sentinel, .sentinel, .data, .sentinel], laidTests := true, laidLooks := .later }
def FnExactLexTextCardSaid : Prop := Claim7.holds Tryz.pinned (.plain (OpenSpec.ofChange fnExactLexTextSpec)) fnExactLexTextCard

/-- THE TIED CARD OF 'laws.FnMarks'. -/
def fnMarksCard : Claim7 := { stood := { row := fnMarksRow, standIns := [], harness := (true, "f4675eaf6338846616c12a5b2744a170a7160deb8a49e0f32b16af18b1983f61"), looks := true }, kinds := [], alts := [], laidByText := true, laidKinds := [.data, .data, .data, .sentinel, .sentinel, .data, .sentinel], laidTests := true, laidLooks := .later }
def FnMarksCardSaid : Prop := Claim7.holds Tryz.pinned (.plain (OpenSpec.ofChange fnMarksSpec)) fnMarksCard

/-- THE TIED CARD OF 'laws.FnExactParseText'. -/
def fnExactParseTextCard : Claim7 := { stood := { row := fnExactParseTextRow, standIns := [], harness := (true, "f4675eaf6338846616c12a5b2744a170a7160deb8a49e0f32b16af18b1983f61"), looks := true }, kinds := [], alts := [], laidByText := true, laidKinds := [.data, .data, .data, .sentinel, .sentinel, .data, .sentinel], laidTests := true, laidLooks := .later }
def FnExactParseTextCardSaid : Prop := Claim7.holds Tryz.pinned (.plain (OpenSpec.ofChange fnExactParseTextSpec)) fnExactParseTextCard

/-- THE SECOND FORM's CARD OF 'laws.FnExactLexText'. -/
def fnExactLexTextUptoCard : Claim7 := { stood := { row := fnExactLexTextUptoRow, standIns := [], harness := (true, "f4675eaf6338846616c12a5b2744a170a7160deb8a49e0f32b16af18b1983f61"), looks := true }, kinds := [], alts := [], laidByText := true, laidKinds := [.data, .data, .data, .sentinel, .sentinel, .data, .sentinel], laidTests := true, laidLooks := .later }
def FnExactLexTextUptoCardSaid : Prop := Claim7.holds Tryz.pinned (.plain (OpenSpec.upto fnExactLexTextSpec)) fnExactLexTextUptoCard

/-- THE SECOND FORM's CARD OF 'laws.FnMarks'. -/
def fnMarksUptoCard : Claim7 := { stood := { row := fnMarksUptoRow, standIns := [], harness := (true, "f4675eaf6338846616c12a5b2744a170a7160deb8a49e0f32b16af18b1983f61"), looks := true }, kinds := [], alts := [], laidByText := true, laidKinds := [.data, .data, .data, .sentinel, .sentinel, .data, .sentinel], laidTests := true, laidLooks := .later }
def FnMarksUptoCardSaid : Prop := Claim7.holds Tryz.pinned (.plain (OpenSpec.upto fnMarksSpec)) fnMarksUptoCard

/-- THE SECOND FORM's CARD OF 'laws.FnExactParseText'. -/
def fnExactParseTextUptoCard : Claim7 := { stood := { row := fnExactParseTextUptoRow, standIns := [], harness := (true, "f4675eaf6338846616c12a5b2744a170a7160deb8a49e0f32b16af18b1983f61"), looks := true }, kinds := [], alts := [], laidByText := true, laidKinds := [.data, .data, .data, .sentinel, .sentinel, .data, .sentinel], laidTests := true, laidLooks := .later }
def FnExactParseTextUptoCardSaid : Prop := Claim7.holds Tryz.pinned (.plain (OpenSpec.upto fnExactParseTextSpec)) fnExactParseTextUptoCard
end Rows
end Go.Proofs.YthcajggbcanmdaaGreatDoor
