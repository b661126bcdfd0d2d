/-
  NARROWER THAN 'FOR EVERY INPUT', by the rows' own cells (each row's printed sentence says how): FnExactWriteTree: laid · FnExactWriteNode: laid · FnExactSpanOf: laid.
  DERIVED. THE GIVEN ROWS OF THIS SEAT. 3 by the template 'for every input the law returns true; each argument reads behind the call as it read before'; 0 by the template 'total and deterministic' (their statements: YtcjnfodkppcpoaaDoorTotals.lean).
  GIVEN WITH THE SEED: the statements are not yours to turn. If you find one false, say at which input.
  Laid BY PROGRAM, IN A SANDBOX (cutbox-rows.mjs): the forced cells as the released guide's own fill.sh prints them over the translation ac1d51eda157f678… (all of the seat's roots in one cut). By AI agents, Wed Nov 11 2026. No macro, syntax, notation, axiom, sorry.
-/
import Derived.Test.YtcjnfodkppcpoaaDoorChecked
import GoSem.Claim
import GoSem.ClaimJoined
import GoSem.ClaimMapViews
import Derived.JoinedTies
import Derived.KernelRfl
namespace Go.Proofs.YtcjnfodkppcpoaaDoor
/- THE CELL 'sum', in the pinned program and in every row, IS THE sha256 OF THE DUMP (.gsa) THAT YtcjnfodkppcpoaaDoorProg.lean LOADS. Nothing in Lean hashes anything: it is a label: what it is worth is what the hold of that sum in a sandbox is worth. -/
noncomputable def Tryd.pinned : Pinned := { name := "ytcjnfodkppcpoaadoor", sum := "ac1d51eda157f6787d316d3ae9c03752dae98d48333630b35dc161b3a2d2a207", checked := Tryd.checked }
namespace Rows
def none {H : Type} : Left H := { results := [], args := [] }

/- WHAT THE LISTED PACKAGE-LEVEL VARIABLES READ AS WHEN THE CALL BEGINS. Each datum BY PROGRAM (the guide's laid-datum.mjs) off the statement by which the dump's own 'gosem.cut.vars' lays the variable. In a bare row this is a premise. The card (YtcjnfodkppcpoaaDoorCards.lean) ties it to the program's text. -/
def laid_loop_example_g00606_impl_namedRefs {H : Type} : DataW H := .agg [.agg [.lit (.int .u8 60), .lit (.string [38, 108, 116, 59])], .agg [.lit (.int .u8 62), .lit (.string [38, 103, 116, 59])], .agg [.lit (.int .u8 38), .lit (.string [38, 97, 109, 112, 59])], .agg [.lit (.int .u8 34), .lit (.string [38, 113, 117, 111, 116, 59])]]

/-- 'laws.FnExactWriteTree': WHATEVER THE INPUT: true; the input reads as it did. -/
def fnExactWriteTreeSpec : ChangeSpec := { name := "fnExactWriteTree", vars := ["loop.example/g00606/impl.namedRefs"], fn := fun _ => fun
  | [d, g1] => { results := [.lit (.bool true)], args := [d], vars := [g1] }
  | _ => none }
def fnExactWriteTreeRow : OpenClaim := { program := "ytcjnfodkppcpoaadoor", sum := "ac1d51eda157f6787d316d3ae9c03752dae98d48333630b35dc161b3a2d2a207", func := "loop.example/g00606/laws.FnExactWriteTree", spec := "fnExactWriteTree", inPlace := ["internal/abi.NoEscape"], unfollowed := true, recurses := true, named := ["loop.example/g00606/impl.namedRefs"], apart := false, laid := [("loop.example/g00606/impl.namedRefs", laid_loop_example_g00606_impl_namedRefs)] }
def FnExactWriteTreeSaid : Prop := fnExactWriteTreeRow.holds Tryd.pinned (OpenSpec.ofChange fnExactWriteTreeSpec)

/-- ITS FALSE NEIGHBOUR: 'it returns false'. Refute it at one input. -/
def fnExactWriteTreeWrong : ChangeSpec := { name := "fnExactWriteTree", vars := ["loop.example/g00606/impl.namedRefs"], fn := fun _ => fun
  | [d, g1] => { results := [.lit (.bool false)], args := [d], vars := [g1] }
  | _ => none }
def FnExactWriteTreeWrongFalsely : Prop := fnExactWriteTreeRow.holds Tryd.pinned (OpenSpec.ofChange fnExactWriteTreeWrong)

/-- 'laws.FnExactWriteNode': WHATEVER THE INPUT: true; the input reads as it did. -/
def fnExactWriteNodeSpec : ChangeSpec := { name := "fnExactWriteNode", vars := ["loop.example/g00606/impl.namedRefs"], fn := fun _ => fun
  | [d1, d2, g1] => { results := [.lit (.bool true)], args := [d1, d2], vars := [g1] }
  | _ => none }
def fnExactWriteNodeRow : OpenClaim := { program := "ytcjnfodkppcpoaadoor", sum := "ac1d51eda157f6787d316d3ae9c03752dae98d48333630b35dc161b3a2d2a207", func := "loop.example/g00606/laws.FnExactWriteNode", spec := "fnExactWriteNode", inPlace := ["internal/abi.NoEscape"], unfollowed := true, recurses := true, named := ["loop.example/g00606/impl.namedRefs"], apart := false, laid := [("loop.example/g00606/impl.namedRefs", laid_loop_example_g00606_impl_namedRefs)] }
def FnExactWriteNodeSaid : Prop := fnExactWriteNodeRow.holds Tryd.pinned (OpenSpec.ofChange fnExactWriteNodeSpec)

/-- ITS FALSE NEIGHBOUR: 'it returns false'. Refute it at one input. -/
def fnExactWriteNodeWrong : ChangeSpec := { name := "fnExactWriteNode", vars := ["loop.example/g00606/impl.namedRefs"], fn := fun _ => fun
  | [d1, d2, g1] => { results := [.lit (.bool false)], args := [d1, d2], vars := [g1] }
  | _ => none }
def FnExactWriteNodeWrongFalsely : Prop := fnExactWriteNodeRow.holds Tryd.pinned (OpenSpec.ofChange fnExactWriteNodeWrong)

/-- 'laws.FnExactSpanOf': WHATEVER THE INPUT: true; the input reads as it did. -/
def fnExactSpanOfSpec : ChangeSpec := { name := "fnExactSpanOf", vars := ["loop.example/g00606/impl.namedRefs"], fn := fun _ => fun
  | [d1, d2, g1] => { results := [.lit (.bool true)], args := [d1, d2], vars := [g1] }
  | _ => none }
def fnExactSpanOfRow : OpenClaim := { program := "ytcjnfodkppcpoaadoor", sum := "ac1d51eda157f6787d316d3ae9c03752dae98d48333630b35dc161b3a2d2a207", func := "loop.example/g00606/laws.FnExactSpanOf", spec := "fnExactSpanOf", inPlace := ["internal/abi.NoEscape"], unfollowed := true, recurses := true, named := ["loop.example/g00606/impl.namedRefs"], apart := false, laid := [("loop.example/g00606/impl.namedRefs", laid_loop_example_g00606_impl_namedRefs)] }
def FnExactSpanOfSaid : Prop := fnExactSpanOfRow.holds Tryd.pinned (OpenSpec.ofChange fnExactSpanOfSpec)

/-- ITS FALSE NEIGHBOUR: 'it returns false'. Refute it at one input. -/
def fnExactSpanOfWrong : ChangeSpec := { name := "fnExactSpanOf", vars := ["loop.example/g00606/impl.namedRefs"], fn := fun _ => fun
  | [d1, d2, g1] => { results := [.lit (.bool false)], args := [d1, d2], vars := [g1] }
  | _ => none }
def FnExactSpanOfWrongFalsely : Prop := fnExactSpanOfRow.holds Tryd.pinned (OpenSpec.ofChange fnExactSpanOfWrong)

/- THE SECOND FORM. 'bulk': how many values and letters a reading holds, each counted each time it is reached (what is shared counts as often as it is met; a slice's spare places count too). A statement '..UptoSaid' is the law's where the arguments, and the package variables that the reading takes, are together of bulk at most 1048576: NARROWER than '..Said'. Prove '..Said' where nothing that the law and all that it calls make is longer than what came in: it says more and counts as full. Else prove '..UptoSaid'. A law counts once. -/
mutual
def uptoBulk {H : Type} : DataW H → Nat
  | .lit (.string bytes) => bytes.length + 1
  | .lit _ => 1
  | .nil => 1
  | .ptr d => uptoBulk d + 1
  | .slice elems spare => uptoBulkAll elems + uptoBulkAll spare + 1
  | .agg parts => uptoBulkAll parts + 1
  | .iface _ d => uptoBulk d + 1
  | .map entries => uptoBulkEntries entries + 1
  | .held _ => 1
def uptoBulkAll {H : Type} : List (DataW H) → Nat
  | [] => 0
  | d :: r => uptoBulk d + uptoBulkAll r
def uptoBulkEntries {H : Type} : List (Lit × DataW H) → Nat
  | [] => 0
  | x :: r => uptoBulkEntry x + uptoBulkEntries r
def uptoBulkEntry {H : Type} : Lit × DataW H → Nat
  | (.string bytes, d) => bytes.length + uptoBulk d + 1
  | (_, d) => uptoBulk d + 1
 end
def uptoSmall : (H : Type) → List (DataW H) → Bool := fun _ ds => decide (uptoBulkAll ds ≤ 1048576)
def OpenSpec.upto (s : _root_.Go.ChangeSpec) : _root_.Go.OpenSpec := { _root_.Go.OpenSpec.ofChange s with cond := some uptoSmall }

/-- 'laws.FnExactWriteTree', WHERE WHAT IT READS IS OF BULK AT MOST 1048576: true; the input reads as it did. -/
def fnExactWriteTreeUptoRow : OpenClaim := { program := "ytcjnfodkppcpoaadoor", sum := "ac1d51eda157f6787d316d3ae9c03752dae98d48333630b35dc161b3a2d2a207", func := "loop.example/g00606/laws.FnExactWriteTree", spec := "fnExactWriteTree", inPlace := ["internal/abi.NoEscape"], unfollowed := true, recurses := true, named := ["loop.example/g00606/impl.namedRefs"], apart := false, laid := [("loop.example/g00606/impl.namedRefs", laid_loop_example_g00606_impl_namedRefs)], narrowed := true }
def FnExactWriteTreeUptoSaid : Prop := fnExactWriteTreeUptoRow.holds Tryd.pinned (OpenSpec.upto fnExactWriteTreeSpec)

/-- 'laws.FnExactWriteNode', WHERE WHAT IT READS IS OF BULK AT MOST 1048576: true; the input reads as it did. -/
def fnExactWriteNodeUptoRow : OpenClaim := { program := "ytcjnfodkppcpoaadoor", sum := "ac1d51eda157f6787d316d3ae9c03752dae98d48333630b35dc161b3a2d2a207", func := "loop.example/g00606/laws.FnExactWriteNode", spec := "fnExactWriteNode", inPlace := ["internal/abi.NoEscape"], unfollowed := true, recurses := true, named := ["loop.example/g00606/impl.namedRefs"], apart := false, laid := [("loop.example/g00606/impl.namedRefs", laid_loop_example_g00606_impl_namedRefs)], narrowed := true }
def FnExactWriteNodeUptoSaid : Prop := fnExactWriteNodeUptoRow.holds Tryd.pinned (OpenSpec.upto fnExactWriteNodeSpec)

/-- 'laws.FnExactSpanOf', WHERE WHAT IT READS IS OF BULK AT MOST 1048576: true; the input reads as it did. -/
def fnExactSpanOfUptoRow : OpenClaim := { program := "ytcjnfodkppcpoaadoor", sum := "ac1d51eda157f6787d316d3ae9c03752dae98d48333630b35dc161b3a2d2a207", func := "loop.example/g00606/laws.FnExactSpanOf", spec := "fnExactSpanOf", inPlace := ["internal/abi.NoEscape"], unfollowed := true, recurses := true, named := ["loop.example/g00606/impl.namedRefs"], apart := false, laid := [("loop.example/g00606/impl.namedRefs", laid_loop_example_g00606_impl_namedRefs)], narrowed := true }
def FnExactSpanOfUptoSaid : Prop := fnExactSpanOfUptoRow.holds Tryd.pinned (OpenSpec.upto fnExactSpanOfSpec)

end Rows
end Go.Proofs.YtcjnfodkppcpoaaDoor
