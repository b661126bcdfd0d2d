/-
  No cell of these rows narrows 'for every input' (looked for: loops, veiled, ifaces, maps, wideKeys, modest, calm, conditions, laid).
  DERIVED. THE GIVEN ROWS OF THIS SEAT. 3 by the template 'for every input the law returns true; each argument reads behind the call as it read before'; 0 by the template 'total and deterministic' (their statements: YtbdjppiagjhfmaaTotals.lean).
  GIVEN WITH THE SEED: the statements are not yours to turn. If you find one false, say at which input.
  Laid BY PROGRAM, IN A SANDBOX (cutbox-rows.mjs): the forced cells as the released guide's own fill.sh prints them over the translation e8f47d2c6928ea2c… (all of the seat's roots in one cut). By AI agents, Wed Nov 11 2026. No macro, syntax, notation, axiom, sorry.
-/
import Derived.Test.YtbdjppiagjhfmaaChecked
import GoSem.Claim
import GoSem.ClaimJoined
import GoSem.ClaimMapViews
import Derived.JoinedTies
import Derived.KernelRfl
namespace Go.Proofs.Ytbdjppiagjhfmaa
/- THE CELL 'sum', in the pinned program and in every row, IS THE sha256 OF THE DUMP (.gsa) THAT YtbdjppiagjhfmaaProg.lean LOADS. Nothing in Lean hashes anything: it is a label: what it is worth is what the hold of that sum in a sandbox is worth. -/
noncomputable def Try.pinned : Pinned := { name := "ytbdjppiagjhfmaa", sum := "e8f47d2c6928ea2c980721a3e6612e87d2ed294ec03f497fc033582bb91987da", checked := Try.checked }
namespace Rows
def none {H : Type} : Left H := { results := [], args := [] }

/-- 'laws.FnExactChangeFault': WHATEVER THE INPUT: true; the input reads as it did. -/
def fnExactChangeFaultSpec : ChangeSpec := { name := "fnExactChangeFault", fn := fun _ => fun
  | [d] => { results := [.lit (.bool true)], args := [d] }
  | _ => none }
def fnExactChangeFaultRow : OpenClaim := { program := "ytbdjppiagjhfmaa", sum := "e8f47d2c6928ea2c980721a3e6612e87d2ed294ec03f497fc033582bb91987da", func := "loop.example/g00606/laws.FnExactChangeFault", spec := "fnExactChangeFault", apart := false }
def FnExactChangeFaultSaid : Prop := fnExactChangeFaultRow.holds Try.pinned (OpenSpec.ofChange fnExactChangeFaultSpec)

/-- ITS FALSE NEIGHBOUR: 'it returns false'. Refute it at one input. -/
def fnExactChangeFaultWrong : ChangeSpec := { name := "fnExactChangeFault", fn := fun _ => fun
  | [d] => { results := [.lit (.bool false)], args := [d] }
  | _ => none }
def FnExactChangeFaultWrongFalsely : Prop := fnExactChangeFaultRow.holds Try.pinned (OpenSpec.ofChange fnExactChangeFaultWrong)

/-- 'laws.FnExactPreviewOf': WHATEVER THE INPUT: true; the input reads as it did. -/
def fnExactPreviewOfSpec : ChangeSpec := { name := "fnExactPreviewOf", fn := fun _ => fun
  | [d1, d2] => { results := [.lit (.bool true)], args := [d1, d2] }
  | _ => none }
def fnExactPreviewOfRow : OpenClaim := { program := "ytbdjppiagjhfmaa", sum := "e8f47d2c6928ea2c980721a3e6612e87d2ed294ec03f497fc033582bb91987da", func := "loop.example/g00606/laws.FnExactPreviewOf", spec := "fnExactPreviewOf", apart := false }
def FnExactPreviewOfSaid : Prop := fnExactPreviewOfRow.holds Try.pinned (OpenSpec.ofChange fnExactPreviewOfSpec)

/-- ITS FALSE NEIGHBOUR: 'it returns false'. Refute it at one input. -/
def fnExactPreviewOfWrong : ChangeSpec := { name := "fnExactPreviewOf", fn := fun _ => fun
  | [d1, d2] => { results := [.lit (.bool false)], args := [d1, d2] }
  | _ => none }
def FnExactPreviewOfWrongFalsely : Prop := fnExactPreviewOfRow.holds Try.pinned (OpenSpec.ofChange fnExactPreviewOfWrong)

/-- 'laws.FnExactSameSessions': WHATEVER THE INPUT: true; the input reads as it did. -/
def fnExactSameSessionsSpec : ChangeSpec := { name := "fnExactSameSessions", fn := fun _ => fun
  | [d1, d2] => { results := [.lit (.bool true)], args := [d1, d2] }
  | _ => none }
def fnExactSameSessionsRow : OpenClaim := { program := "ytbdjppiagjhfmaa", sum := "e8f47d2c6928ea2c980721a3e6612e87d2ed294ec03f497fc033582bb91987da", func := "loop.example/g00606/laws.FnExactSameSessions", spec := "fnExactSameSessions", unfollowed := true, recurses := true, apart := false }
def FnExactSameSessionsSaid : Prop := fnExactSameSessionsRow.holds Try.pinned (OpenSpec.ofChange fnExactSameSessionsSpec)

/-- ITS FALSE NEIGHBOUR: 'it returns false'. Refute it at one input. -/
def fnExactSameSessionsWrong : ChangeSpec := { name := "fnExactSameSessions", fn := fun _ => fun
  | [d1, d2] => { results := [.lit (.bool false)], args := [d1, d2] }
  | _ => none }
def FnExactSameSessionsWrongFalsely : Prop := fnExactSameSessionsRow.holds Try.pinned (OpenSpec.ofChange fnExactSameSessionsWrong)

/- THE SECOND FORM. 'bulk': how many values and letters a reading holds, each counted each time it is reached (what is shared counts as often as it is met; a slice's spare places count too). A statement '..UptoSaid' is the law's where the arguments, and the package variables that the reading takes, are together of bulk at most 1048576: NARROWER than '..Said'. Prove '..Said' where nothing that the law and all that it calls make is longer than what came in: it says more and counts as full. Else prove '..UptoSaid'. A law counts once. -/
mutual
def uptoBulk {H : Type} : DataW H → Nat
  | .lit (.string bytes) => bytes.length + 1
  | .lit _ => 1
  | .nil => 1
  | .ptr d => uptoBulk d + 1
  | .slice elems spare => uptoBulkAll elems + uptoBulkAll spare + 1
  | .agg parts => uptoBulkAll parts + 1
  | .iface _ d => uptoBulk d + 1
  | .map entries => uptoBulkEntries entries + 1
  | .held _ => 1
def uptoBulkAll {H : Type} : List (DataW H) → Nat
  | [] => 0
  | d :: r => uptoBulk d + uptoBulkAll r
def uptoBulkEntries {H : Type} : List (Lit × DataW H) → Nat
  | [] => 0
  | x :: r => uptoBulkEntry x + uptoBulkEntries r
def uptoBulkEntry {H : Type} : Lit × DataW H → Nat
  | (.string bytes, d) => bytes.length + uptoBulk d + 1
  | (_, d) => uptoBulk d + 1
 end
def uptoSmall : (H : Type) → List (DataW H) → Bool := fun _ ds => decide (uptoBulkAll ds ≤ 1048576)
def OpenSpec.upto (s : _root_.Go.ChangeSpec) : _root_.Go.OpenSpec := { _root_.Go.OpenSpec.ofChange s with cond := some uptoSmall }

/-- 'laws.FnExactChangeFault', WHERE WHAT IT READS IS OF BULK AT MOST 1048576: true; the input reads as it did. -/
def fnExactChangeFaultUptoRow : OpenClaim := { program := "ytbdjppiagjhfmaa", sum := "e8f47d2c6928ea2c980721a3e6612e87d2ed294ec03f497fc033582bb91987da", func := "loop.example/g00606/laws.FnExactChangeFault", spec := "fnExactChangeFault", apart := false, narrowed := true }
def FnExactChangeFaultUptoSaid : Prop := fnExactChangeFaultUptoRow.holds Try.pinned (OpenSpec.upto fnExactChangeFaultSpec)

/-- 'laws.FnExactPreviewOf', WHERE WHAT IT READS IS OF BULK AT MOST 1048576: true; the input reads as it did. -/
def fnExactPreviewOfUptoRow : OpenClaim := { program := "ytbdjppiagjhfmaa", sum := "e8f47d2c6928ea2c980721a3e6612e87d2ed294ec03f497fc033582bb91987da", func := "loop.example/g00606/laws.FnExactPreviewOf", spec := "fnExactPreviewOf", apart := false, narrowed := true }
def FnExactPreviewOfUptoSaid : Prop := fnExactPreviewOfUptoRow.holds Try.pinned (OpenSpec.upto fnExactPreviewOfSpec)

/-- 'laws.FnExactSameSessions', WHERE WHAT IT READS IS OF BULK AT MOST 1048576: true; the input reads as it did. -/
def fnExactSameSessionsUptoRow : OpenClaim := { program := "ytbdjppiagjhfmaa", sum := "e8f47d2c6928ea2c980721a3e6612e87d2ed294ec03f497fc033582bb91987da", func := "loop.example/g00606/laws.FnExactSameSessions", spec := "fnExactSameSessions", unfollowed := true, recurses := true, apart := false, narrowed := true }
def FnExactSameSessionsUptoSaid : Prop := fnExactSameSessionsUptoRow.holds Try.pinned (OpenSpec.upto fnExactSameSessionsSpec)

end Rows
end Go.Proofs.Ytbdjppiagjhfmaa
