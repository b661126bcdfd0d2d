/-
  No cell of these rows narrows 'for every input' (looked for: loops, veiled, ifaces, maps, wideKeys, modest, calm, conditions, laid).
  DERIVED. THE GIVEN ROWS OF THIS SEAT. 3 by the template 'for every input the law returns true; each argument reads behind the call as it read before'; 0 by the template 'total and deterministic' (their statements: YtahkneghmgmnbaaTotals.lean).
  GIVEN WITH THE SEED: the statements are not yours to turn. If you find one false, say at which input.
  Laid BY PROGRAM, IN A SANDBOX (cutbox-rows.mjs): the forced cells as the released guide's own fill.sh prints them over the translation 1c9a1e59676dcad9… (all of the seat's roots in one cut). By AI agents, Wed Nov 11 2026. No macro, syntax, notation, axiom, sorry.
-/
import Derived.Test.YtahkneghmgmnbaaChecked
import GoSem.Claim
import GoSem.ClaimJoined
import GoSem.ClaimMapViews
import Derived.JoinedTies
import Derived.KernelRfl
namespace Go.Proofs.Ytahkneghmgmnbaa
/- THE CELL 'sum', in the pinned program and in every row, IS THE sha256 OF THE DUMP (.gsa) THAT YtahkneghmgmnbaaProg.lean LOADS. Nothing in Lean hashes anything: it is a label: what it is worth is what the hold of that sum in a sandbox is worth. -/
noncomputable def Try.pinned : Pinned := { name := "ytahkneghmgmnbaa", sum := "1c9a1e59676dcad9e2150835768c818636b687c8aec32e75c6e6f24b96c8eaf6", checked := Try.checked }
namespace Rows
def none {H : Type} : Left H := { results := [], args := [] }

/-- 'laws.FnInserts': WHATEVER THE INPUT: true; the input reads as it did. -/
def fnInsertsSpec : ChangeSpec := { name := "fnInserts", fn := fun _ => fun
  | [d] => { results := [.lit (.bool true)], args := [d] }
  | _ => none }
def fnInsertsRow : OpenClaim := { program := "ytahkneghmgmnbaa", sum := "1c9a1e59676dcad9e2150835768c818636b687c8aec32e75c6e6f24b96c8eaf6", func := "loop.example/g00606/laws.FnInserts", spec := "fnInserts", apart := false }
def FnInsertsSaid : Prop := fnInsertsRow.holds Try.pinned (OpenSpec.ofChange fnInsertsSpec)

/-- ITS FALSE NEIGHBOUR: 'it returns false'. Refute it at one input. -/
def fnInsertsWrong : ChangeSpec := { name := "fnInserts", fn := fun _ => fun
  | [d] => { results := [.lit (.bool false)], args := [d] }
  | _ => none }
def FnInsertsWrongFalsely : Prop := fnInsertsRow.holds Try.pinned (OpenSpec.ofChange fnInsertsWrong)

/-- 'laws.FnDeletes': WHATEVER THE INPUT: true; the input reads as it did. -/
def fnDeletesSpec : ChangeSpec := { name := "fnDeletes", fn := fun _ => fun
  | [d] => { results := [.lit (.bool true)], args := [d] }
  | _ => none }
def fnDeletesRow : OpenClaim := { program := "ytahkneghmgmnbaa", sum := "1c9a1e59676dcad9e2150835768c818636b687c8aec32e75c6e6f24b96c8eaf6", func := "loop.example/g00606/laws.FnDeletes", spec := "fnDeletes", apart := false }
def FnDeletesSaid : Prop := fnDeletesRow.holds Try.pinned (OpenSpec.ofChange fnDeletesSpec)

/-- ITS FALSE NEIGHBOUR: 'it returns false'. Refute it at one input. -/
def fnDeletesWrong : ChangeSpec := { name := "fnDeletes", fn := fun _ => fun
  | [d] => { results := [.lit (.bool false)], args := [d] }
  | _ => none }
def FnDeletesWrongFalsely : Prop := fnDeletesRow.holds Try.pinned (OpenSpec.ofChange fnDeletesWrong)

/-- 'laws.FnExactIsName': WHATEVER THE INPUT: true; the input reads as it did. -/
def fnExactIsNameSpec : ChangeSpec := { name := "fnExactIsName", fn := fun _ => fun
  | [d] => { results := [.lit (.bool true)], args := [d] }
  | _ => none }
def fnExactIsNameRow : OpenClaim := { program := "ytahkneghmgmnbaa", sum := "1c9a1e59676dcad9e2150835768c818636b687c8aec32e75c6e6f24b96c8eaf6", func := "loop.example/g00606/laws.FnExactIsName", spec := "fnExactIsName", apart := false }
def FnExactIsNameSaid : Prop := fnExactIsNameRow.holds Try.pinned (OpenSpec.ofChange fnExactIsNameSpec)

/-- ITS FALSE NEIGHBOUR: 'it returns false'. Refute it at one input. -/
def fnExactIsNameWrong : ChangeSpec := { name := "fnExactIsName", fn := fun _ => fun
  | [d] => { results := [.lit (.bool false)], args := [d] }
  | _ => none }
def FnExactIsNameWrongFalsely : Prop := fnExactIsNameRow.holds Try.pinned (OpenSpec.ofChange fnExactIsNameWrong)

/- THE SECOND FORM. 'bulk': how many values and letters a reading holds, each counted each time it is reached (what is shared counts as often as it is met; a slice's spare places count too). A statement '..UptoSaid' is the law's where the arguments, and the package variables that the reading takes, are together of bulk at most 1048576: NARROWER than '..Said'. Prove '..Said' where nothing that the law and all that it calls make is longer than what came in: it says more and counts as full. Else prove '..UptoSaid'. A law counts once. -/
mutual
def uptoBulk {H : Type} : DataW H → Nat
  | .lit (.string bytes) => bytes.length + 1
  | .lit _ => 1
  | .nil => 1
  | .ptr d => uptoBulk d + 1
  | .slice elems spare => uptoBulkAll elems + uptoBulkAll spare + 1
  | .agg parts => uptoBulkAll parts + 1
  | .iface _ d => uptoBulk d + 1
  | .map entries => uptoBulkEntries entries + 1
  | .held _ => 1
def uptoBulkAll {H : Type} : List (DataW H) → Nat
  | [] => 0
  | d :: r => uptoBulk d + uptoBulkAll r
def uptoBulkEntries {H : Type} : List (Lit × DataW H) → Nat
  | [] => 0
  | x :: r => uptoBulkEntry x + uptoBulkEntries r
def uptoBulkEntry {H : Type} : Lit × DataW H → Nat
  | (.string bytes, d) => bytes.length + uptoBulk d + 1
  | (_, d) => uptoBulk d + 1
 end
def uptoSmall : (H : Type) → List (DataW H) → Bool := fun _ ds => decide (uptoBulkAll ds ≤ 1048576)
def OpenSpec.upto (s : _root_.Go.ChangeSpec) : _root_.Go.OpenSpec := { _root_.Go.OpenSpec.ofChange s with cond := some uptoSmall }

/-- 'laws.FnInserts', WHERE WHAT IT READS IS OF BULK AT MOST 1048576: true; the input reads as it did. -/
def fnInsertsUptoRow : OpenClaim := { program := "ytahkneghmgmnbaa", sum := "1c9a1e59676dcad9e2150835768c818636b687c8aec32e75c6e6f24b96c8eaf6", func := "loop.example/g00606/laws.FnInserts", spec := "fnInserts", apart := false, narrowed := true }
def FnInsertsUptoSaid : Prop := fnInsertsUptoRow.holds Try.pinned (OpenSpec.upto fnInsertsSpec)

/-- 'laws.FnDeletes', WHERE WHAT IT READS IS OF BULK AT MOST 1048576: true; the input reads as it did. -/
def fnDeletesUptoRow : OpenClaim := { program := "ytahkneghmgmnbaa", sum := "1c9a1e59676dcad9e2150835768c818636b687c8aec32e75c6e6f24b96c8eaf6", func := "loop.example/g00606/laws.FnDeletes", spec := "fnDeletes", apart := false, narrowed := true }
def FnDeletesUptoSaid : Prop := fnDeletesUptoRow.holds Try.pinned (OpenSpec.upto fnDeletesSpec)

/-- 'laws.FnExactIsName', WHERE WHAT IT READS IS OF BULK AT MOST 1048576: true; the input reads as it did. -/
def fnExactIsNameUptoRow : OpenClaim := { program := "ytahkneghmgmnbaa", sum := "1c9a1e59676dcad9e2150835768c818636b687c8aec32e75c6e6f24b96c8eaf6", func := "loop.example/g00606/laws.FnExactIsName", spec := "fnExactIsName", apart := false, narrowed := true }
def FnExactIsNameUptoSaid : Prop := fnExactIsNameUptoRow.holds Try.pinned (OpenSpec.upto fnExactIsNameSpec)

end Rows
end Go.Proofs.Ytahkneghmgmnbaa
