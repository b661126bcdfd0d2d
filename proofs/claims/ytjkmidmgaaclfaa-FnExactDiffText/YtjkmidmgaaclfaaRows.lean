/-
  No cell of these rows narrows 'for every input' (looked for: loops, veiled, ifaces, maps, wideKeys, modest, calm, conditions, laid).
  DERIVED. THE GIVEN ROWS OF THIS SEAT. 5 by the template 'for every input the law returns true; each argument reads behind the call as it read before'; 0 by the template 'total and deterministic' (their statements: YtjkmidmgaaclfaaTotals.lean).
  GIVEN WITH THE SEED: the statements are not yours to turn. If you find one false, say at which input.
  Laid BY PROGRAM, IN A SANDBOX (cutbox-rows.mjs): the forced cells as the released guide's own fill.sh prints them over the translation ea20af0aa0d07f95… (all of the seat's roots in one cut). By AI agents, Wed Nov 11 2026. No macro, syntax, notation, axiom, sorry.
-/
import Derived.Test.YtjkmidmgaaclfaaChecked
import GoSem.Claim
import GoSem.ClaimJoined
import GoSem.ClaimMapViews
import Derived.JoinedTies
import Derived.KernelRfl
namespace Go.Proofs.Ytjkmidmgaaclfaa
/- THE CELL 'sum', in the pinned program and in every row, IS THE sha256 OF THE DUMP (.gsa) THAT YtjkmidmgaaclfaaProg.lean LOADS. Nothing in Lean hashes anything: it is a label: what it is worth is what the hold of that sum in a sandbox is worth. -/
noncomputable def Try.pinned : Pinned := { name := "ytjkmidmgaaclfaa", sum := "ea20af0aa0d07f95045f41bd1073683a6f066c6b1b1fa98beeffc969d75677b0", checked := Try.checked }
namespace Rows
def none {H : Type} : Left H := { results := [], args := [] }

/-- 'laws.FnExactPatchesFault': WHATEVER THE INPUT: true; the input reads as it did. -/
def fnExactPatchesFaultSpec : ChangeSpec := { name := "fnExactPatchesFault", fn := fun _ => fun
  | [d1, d2] => { results := [.lit (.bool true)], args := [d1, d2] }
  | _ => none }
def fnExactPatchesFaultRow : OpenClaim := { program := "ytjkmidmgaaclfaa", sum := "ea20af0aa0d07f95045f41bd1073683a6f066c6b1b1fa98beeffc969d75677b0", func := "loop.example/g00606/laws.FnExactPatchesFault", spec := "fnExactPatchesFault", apart := false }
def FnExactPatchesFaultSaid : Prop := fnExactPatchesFaultRow.holds Try.pinned (OpenSpec.ofChange fnExactPatchesFaultSpec)

/-- ITS FALSE NEIGHBOUR: 'it returns false'. Refute it at one input. -/
def fnExactPatchesFaultWrong : ChangeSpec := { name := "fnExactPatchesFault", fn := fun _ => fun
  | [d1, d2] => { results := [.lit (.bool false)], args := [d1, d2] }
  | _ => none }
def FnExactPatchesFaultWrongFalsely : Prop := fnExactPatchesFaultRow.holds Try.pinned (OpenSpec.ofChange fnExactPatchesFaultWrong)

/-- 'laws.FnExactDiffText': WHATEVER THE INPUT: true; the input reads as it did. -/
def fnExactDiffTextSpec : ChangeSpec := { name := "fnExactDiffText", fn := fun _ => fun
  | [d1, d2] => { results := [.lit (.bool true)], args := [d1, d2] }
  | _ => none }
def fnExactDiffTextRow : OpenClaim := { program := "ytjkmidmgaaclfaa", sum := "ea20af0aa0d07f95045f41bd1073683a6f066c6b1b1fa98beeffc969d75677b0", func := "loop.example/g00606/laws.FnExactDiffText", spec := "fnExactDiffText", apart := false }
def FnExactDiffTextSaid : Prop := fnExactDiffTextRow.holds Try.pinned (OpenSpec.ofChange fnExactDiffTextSpec)

/-- ITS FALSE NEIGHBOUR: 'it returns false'. Refute it at one input. -/
def fnExactDiffTextWrong : ChangeSpec := { name := "fnExactDiffText", fn := fun _ => fun
  | [d1, d2] => { results := [.lit (.bool false)], args := [d1, d2] }
  | _ => none }
def FnExactDiffTextWrongFalsely : Prop := fnExactDiffTextRow.holds Try.pinned (OpenSpec.ofChange fnExactDiffTextWrong)

/-- 'laws.FnExactApplyPatches': WHATEVER THE INPUT: true; the input reads as it did. -/
def fnExactApplyPatchesSpec : ChangeSpec := { name := "fnExactApplyPatches", fn := fun _ => fun
  | [d1, d2] => { results := [.lit (.bool true)], args := [d1, d2] }
  | _ => none }
def fnExactApplyPatchesRow : OpenClaim := { program := "ytjkmidmgaaclfaa", sum := "ea20af0aa0d07f95045f41bd1073683a6f066c6b1b1fa98beeffc969d75677b0", func := "loop.example/g00606/laws.FnExactApplyPatches", spec := "fnExactApplyPatches", apart := false }
def FnExactApplyPatchesSaid : Prop := fnExactApplyPatchesRow.holds Try.pinned (OpenSpec.ofChange fnExactApplyPatchesSpec)

/-- ITS FALSE NEIGHBOUR: 'it returns false'. Refute it at one input. -/
def fnExactApplyPatchesWrong : ChangeSpec := { name := "fnExactApplyPatches", fn := fun _ => fun
  | [d1, d2] => { results := [.lit (.bool false)], args := [d1, d2] }
  | _ => none }
def FnExactApplyPatchesWrongFalsely : Prop := fnExactApplyPatchesRow.holds Try.pinned (OpenSpec.ofChange fnExactApplyPatchesWrong)

/-- 'laws.FnExactPatchSize': WHATEVER THE INPUT: true; the input reads as it did. -/
def fnExactPatchSizeSpec : ChangeSpec := { name := "fnExactPatchSize", fn := fun _ => fun
  | [d] => { results := [.lit (.bool true)], args := [d] }
  | _ => none }
def fnExactPatchSizeRow : OpenClaim := { program := "ytjkmidmgaaclfaa", sum := "ea20af0aa0d07f95045f41bd1073683a6f066c6b1b1fa98beeffc969d75677b0", func := "loop.example/g00606/laws.FnExactPatchSize", spec := "fnExactPatchSize", apart := false }
def FnExactPatchSizeSaid : Prop := fnExactPatchSizeRow.holds Try.pinned (OpenSpec.ofChange fnExactPatchSizeSpec)

/-- ITS FALSE NEIGHBOUR: 'it returns false'. Refute it at one input. -/
def fnExactPatchSizeWrong : ChangeSpec := { name := "fnExactPatchSize", fn := fun _ => fun
  | [d] => { results := [.lit (.bool false)], args := [d] }
  | _ => none }
def FnExactPatchSizeWrongFalsely : Prop := fnExactPatchSizeRow.holds Try.pinned (OpenSpec.ofChange fnExactPatchSizeWrong)

/-- 'laws.FnExactSamePatches': WHATEVER THE INPUT: true; the input reads as it did. -/
def fnExactSamePatchesSpec : ChangeSpec := { name := "fnExactSamePatches", fn := fun _ => fun
  | [d1, d2] => { results := [.lit (.bool true)], args := [d1, d2] }
  | _ => none }
def fnExactSamePatchesRow : OpenClaim := { program := "ytjkmidmgaaclfaa", sum := "ea20af0aa0d07f95045f41bd1073683a6f066c6b1b1fa98beeffc969d75677b0", func := "loop.example/g00606/laws.FnExactSamePatches", spec := "fnExactSamePatches", unfollowed := true, recurses := true, apart := false }
def FnExactSamePatchesSaid : Prop := fnExactSamePatchesRow.holds Try.pinned (OpenSpec.ofChange fnExactSamePatchesSpec)

/-- ITS FALSE NEIGHBOUR: 'it returns false'. Refute it at one input. -/
def fnExactSamePatchesWrong : ChangeSpec := { name := "fnExactSamePatches", fn := fun _ => fun
  | [d1, d2] => { results := [.lit (.bool false)], args := [d1, d2] }
  | _ => none }
def FnExactSamePatchesWrongFalsely : Prop := fnExactSamePatchesRow.holds Try.pinned (OpenSpec.ofChange fnExactSamePatchesWrong)

/- THE SECOND FORM. 'bulk': how many values and letters a reading holds, each counted each time it is reached (what is shared counts as often as it is met; a slice's spare places count too). A statement '..UptoSaid' is the law's where the arguments, and the package variables that the reading takes, are together of bulk at most 1048576: NARROWER than '..Said'. Prove '..Said' where nothing that the law and all that it calls make is longer than what came in: it says more and counts as full. Else prove '..UptoSaid'. A law counts once. -/
mutual
def uptoBulk {H : Type} : DataW H → Nat
  | .lit (.string bytes) => bytes.length + 1
  | .lit _ => 1
  | .nil => 1
  | .ptr d => uptoBulk d + 1
  | .slice elems spare => uptoBulkAll elems + uptoBulkAll spare + 1
  | .agg parts => uptoBulkAll parts + 1
  | .iface _ d => uptoBulk d + 1
  | .map entries => uptoBulkEntries entries + 1
  | .held _ => 1
def uptoBulkAll {H : Type} : List (DataW H) → Nat
  | [] => 0
  | d :: r => uptoBulk d + uptoBulkAll r
def uptoBulkEntries {H : Type} : List (Lit × DataW H) → Nat
  | [] => 0
  | x :: r => uptoBulkEntry x + uptoBulkEntries r
def uptoBulkEntry {H : Type} : Lit × DataW H → Nat
  | (.string bytes, d) => bytes.length + uptoBulk d + 1
  | (_, d) => uptoBulk d + 1
 end
def uptoSmall : (H : Type) → List (DataW H) → Bool := fun _ ds => decide (uptoBulkAll ds ≤ 1048576)
def OpenSpec.upto (s : _root_.Go.ChangeSpec) : _root_.Go.OpenSpec := { _root_.Go.OpenSpec.ofChange s with cond := some uptoSmall }

/-- 'laws.FnExactPatchesFault', WHERE WHAT IT READS IS OF BULK AT MOST 1048576: true; the input reads as it did. -/
def fnExactPatchesFaultUptoRow : OpenClaim := { program := "ytjkmidmgaaclfaa", sum := "ea20af0aa0d07f95045f41bd1073683a6f066c6b1b1fa98beeffc969d75677b0", func := "loop.example/g00606/laws.FnExactPatchesFault", spec := "fnExactPatchesFault", apart := false, narrowed := true }
def FnExactPatchesFaultUptoSaid : Prop := fnExactPatchesFaultUptoRow.holds Try.pinned (OpenSpec.upto fnExactPatchesFaultSpec)

/-- 'laws.FnExactDiffText', WHERE WHAT IT READS IS OF BULK AT MOST 1048576: true; the input reads as it did. -/
def fnExactDiffTextUptoRow : OpenClaim := { program := "ytjkmidmgaaclfaa", sum := "ea20af0aa0d07f95045f41bd1073683a6f066c6b1b1fa98beeffc969d75677b0", func := "loop.example/g00606/laws.FnExactDiffText", spec := "fnExactDiffText", apart := false, narrowed := true }
def FnExactDiffTextUptoSaid : Prop := fnExactDiffTextUptoRow.holds Try.pinned (OpenSpec.upto fnExactDiffTextSpec)

/-- 'laws.FnExactApplyPatches', WHERE WHAT IT READS IS OF BULK AT MOST 1048576: true; the input reads as it did. -/
def fnExactApplyPatchesUptoRow : OpenClaim := { program := "ytjkmidmgaaclfaa", sum := "ea20af0aa0d07f95045f41bd1073683a6f066c6b1b1fa98beeffc969d75677b0", func := "loop.example/g00606/laws.FnExactApplyPatches", spec := "fnExactApplyPatches", apart := false, narrowed := true }
def FnExactApplyPatchesUptoSaid : Prop := fnExactApplyPatchesUptoRow.holds Try.pinned (OpenSpec.upto fnExactApplyPatchesSpec)

/-- 'laws.FnExactPatchSize', WHERE WHAT IT READS IS OF BULK AT MOST 1048576: true; the input reads as it did. -/
def fnExactPatchSizeUptoRow : OpenClaim := { program := "ytjkmidmgaaclfaa", sum := "ea20af0aa0d07f95045f41bd1073683a6f066c6b1b1fa98beeffc969d75677b0", func := "loop.example/g00606/laws.FnExactPatchSize", spec := "fnExactPatchSize", apart := false, narrowed := true }
def FnExactPatchSizeUptoSaid : Prop := fnExactPatchSizeUptoRow.holds Try.pinned (OpenSpec.upto fnExactPatchSizeSpec)

/-- 'laws.FnExactSamePatches', WHERE WHAT IT READS IS OF BULK AT MOST 1048576: true; the input reads as it did. -/
def fnExactSamePatchesUptoRow : OpenClaim := { program := "ytjkmidmgaaclfaa", sum := "ea20af0aa0d07f95045f41bd1073683a6f066c6b1b1fa98beeffc969d75677b0", func := "loop.example/g00606/laws.FnExactSamePatches", spec := "fnExactSamePatches", unfollowed := true, recurses := true, apart := false, narrowed := true }
def FnExactSamePatchesUptoSaid : Prop := fnExactSamePatchesUptoRow.holds Try.pinned (OpenSpec.upto fnExactSamePatchesSpec)

end Rows
end Go.Proofs.Ytjkmidmgaaclfaa
