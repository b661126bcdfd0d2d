/-
  No cell of these rows narrows 'for every input' (looked for: loops, veiled, ifaces, maps, wideKeys, modest, calm, conditions, laid).
  DERIVED. THE GIVEN ROWS OF THIS SEAT. 4 by the template 'for every input the law returns true; each argument reads behind the call as it read before'; 0 by the template 'total and deterministic' (their statements: YtlhjkjhppjogbaaTotals.lean).
  GIVEN WITH THE SEED: the statements are not yours to turn. If you find one false, say at which input.
  Laid BY PROGRAM, IN A SANDBOX (cutbox-rows.mjs): the forced cells as the released guide's own fill.sh prints them over the translation 47c7096e049cc59e… (all of the seat's roots in one cut). By AI agents, Wed Nov 11 2026. No macro, syntax, notation, axiom, sorry.
-/
import Derived.Test.YtlhjkjhppjogbaaChecked
import GoSem.Claim
import GoSem.ClaimJoined
import GoSem.ClaimMapViews
import Derived.JoinedTies
import Derived.KernelRfl
namespace Go.Proofs.Ytlhjkjhppjogbaa
/- THE CELL 'sum', in the pinned program and in every row, IS THE sha256 OF THE DUMP (.gsa) THAT YtlhjkjhppjogbaaProg.lean LOADS. Nothing in Lean hashes anything: it is a label: what it is worth is what the hold of that sum in a sandbox is worth. -/
noncomputable def Try.pinned : Pinned := { name := "ytlhjkjhppjogbaa", sum := "47c7096e049cc59eeed8defce0ea2a0eb50ec1079ff04529a6e2fd8c9f5f28f9", checked := Try.checked }
namespace Rows
def none {H : Type} : Left H := { results := [], args := [] }

/-- 'laws.FnExactPolicyFault': WHATEVER THE INPUT: true; the input reads as it did. -/
def fnExactPolicyFaultSpec : ChangeSpec := { name := "fnExactPolicyFault", fn := fun _ => fun
  | [d] => { results := [.lit (.bool true)], args := [d] }
  | _ => none }
def fnExactPolicyFaultRow : OpenClaim := { program := "ytlhjkjhppjogbaa", sum := "47c7096e049cc59eeed8defce0ea2a0eb50ec1079ff04529a6e2fd8c9f5f28f9", func := "loop.example/g00606/laws.FnExactPolicyFault", spec := "fnExactPolicyFault", apart := false }
def FnExactPolicyFaultSaid : Prop := fnExactPolicyFaultRow.holds Try.pinned (OpenSpec.ofChange fnExactPolicyFaultSpec)

/-- ITS FALSE NEIGHBOUR: 'it returns false'. Refute it at one input. -/
def fnExactPolicyFaultWrong : ChangeSpec := { name := "fnExactPolicyFault", fn := fun _ => fun
  | [d] => { results := [.lit (.bool false)], args := [d] }
  | _ => none }
def FnExactPolicyFaultWrongFalsely : Prop := fnExactPolicyFaultRow.holds Try.pinned (OpenSpec.ofChange fnExactPolicyFaultWrong)

/-- 'laws.FnExactSafeTags': WHATEVER THE INPUT: true; the input reads as it did. -/
def fnExactSafeTagsSpec : ChangeSpec := { name := "fnExactSafeTags", fn := fun _ => fun
  | [] => { results := [.lit (.bool true)], args := [] }
  | _ => none }
def fnExactSafeTagsRow : OpenClaim := { program := "ytlhjkjhppjogbaa", sum := "47c7096e049cc59eeed8defce0ea2a0eb50ec1079ff04529a6e2fd8c9f5f28f9", func := "loop.example/g00606/laws.FnExactSafeTags", spec := "fnExactSafeTags", apart := false }
def FnExactSafeTagsSaid : Prop := fnExactSafeTagsRow.holds Try.pinned (OpenSpec.ofChange fnExactSafeTagsSpec)

/-- ITS FALSE NEIGHBOUR: 'it returns false'. Refute it at one input. -/
def fnExactSafeTagsWrong : ChangeSpec := { name := "fnExactSafeTags", fn := fun _ => fun
  | [] => { results := [.lit (.bool false)], args := [] }
  | _ => none }
def FnExactSafeTagsWrongFalsely : Prop := fnExactSafeTagsRow.holds Try.pinned (OpenSpec.ofChange fnExactSafeTagsWrong)

/-- 'laws.FnExactMayTag': WHATEVER THE INPUT: true; the input reads as it did. -/
def fnExactMayTagSpec : ChangeSpec := { name := "fnExactMayTag", fn := fun _ => fun
  | [d1, d2] => { results := [.lit (.bool true)], args := [d1, d2] }
  | _ => none }
def fnExactMayTagRow : OpenClaim := { program := "ytlhjkjhppjogbaa", sum := "47c7096e049cc59eeed8defce0ea2a0eb50ec1079ff04529a6e2fd8c9f5f28f9", func := "loop.example/g00606/laws.FnExactMayTag", spec := "fnExactMayTag", apart := false }
def FnExactMayTagSaid : Prop := fnExactMayTagRow.holds Try.pinned (OpenSpec.ofChange fnExactMayTagSpec)

/-- ITS FALSE NEIGHBOUR: 'it returns false'. Refute it at one input. -/
def fnExactMayTagWrong : ChangeSpec := { name := "fnExactMayTag", fn := fun _ => fun
  | [d1, d2] => { results := [.lit (.bool false)], args := [d1, d2] }
  | _ => none }
def FnExactMayTagWrongFalsely : Prop := fnExactMayTagRow.holds Try.pinned (OpenSpec.ofChange fnExactMayTagWrong)

/-- 'laws.FnExactIsDropped': WHATEVER THE INPUT: true; the input reads as it did. -/
def fnExactIsDroppedSpec : ChangeSpec := { name := "fnExactIsDropped", fn := fun _ => fun
  | [d] => { results := [.lit (.bool true)], args := [d] }
  | _ => none }
def fnExactIsDroppedRow : OpenClaim := { program := "ytlhjkjhppjogbaa", sum := "47c7096e049cc59eeed8defce0ea2a0eb50ec1079ff04529a6e2fd8c9f5f28f9", func := "loop.example/g00606/laws.FnExactIsDropped", spec := "fnExactIsDropped", apart := false }
def FnExactIsDroppedSaid : Prop := fnExactIsDroppedRow.holds Try.pinned (OpenSpec.ofChange fnExactIsDroppedSpec)

/-- ITS FALSE NEIGHBOUR: 'it returns false'. Refute it at one input. -/
def fnExactIsDroppedWrong : ChangeSpec := { name := "fnExactIsDropped", fn := fun _ => fun
  | [d] => { results := [.lit (.bool false)], args := [d] }
  | _ => none }
def FnExactIsDroppedWrongFalsely : Prop := fnExactIsDroppedRow.holds Try.pinned (OpenSpec.ofChange fnExactIsDroppedWrong)

/- THE SECOND FORM. 'bulk': how many values and letters a reading holds, each counted each time it is reached (what is shared counts as often as it is met; a slice's spare places count too). A statement '..UptoSaid' is the law's where the arguments, and the package variables that the reading takes, are together of bulk at most 1048576: NARROWER than '..Said'. Prove '..Said' where nothing that the law and all that it calls make is longer than what came in: it says more and counts as full. Else prove '..UptoSaid'. A law counts once. -/
mutual
def uptoBulk {H : Type} : DataW H → Nat
  | .lit (.string bytes) => bytes.length + 1
  | .lit _ => 1
  | .nil => 1
  | .ptr d => uptoBulk d + 1
  | .slice elems spare => uptoBulkAll elems + uptoBulkAll spare + 1
  | .agg parts => uptoBulkAll parts + 1
  | .iface _ d => uptoBulk d + 1
  | .map entries => uptoBulkEntries entries + 1
  | .held _ => 1
def uptoBulkAll {H : Type} : List (DataW H) → Nat
  | [] => 0
  | d :: r => uptoBulk d + uptoBulkAll r
def uptoBulkEntries {H : Type} : List (Lit × DataW H) → Nat
  | [] => 0
  | x :: r => uptoBulkEntry x + uptoBulkEntries r
def uptoBulkEntry {H : Type} : Lit × DataW H → Nat
  | (.string bytes, d) => bytes.length + uptoBulk d + 1
  | (_, d) => uptoBulk d + 1
 end
def uptoSmall : (H : Type) → List (DataW H) → Bool := fun _ ds => decide (uptoBulkAll ds ≤ 1048576)
def OpenSpec.upto (s : _root_.Go.ChangeSpec) : _root_.Go.OpenSpec := { _root_.Go.OpenSpec.ofChange s with cond := some uptoSmall }

/-- 'laws.FnExactPolicyFault', WHERE WHAT IT READS IS OF BULK AT MOST 1048576: true; the input reads as it did. -/
def fnExactPolicyFaultUptoRow : OpenClaim := { program := "ytlhjkjhppjogbaa", sum := "47c7096e049cc59eeed8defce0ea2a0eb50ec1079ff04529a6e2fd8c9f5f28f9", func := "loop.example/g00606/laws.FnExactPolicyFault", spec := "fnExactPolicyFault", apart := false, narrowed := true }
def FnExactPolicyFaultUptoSaid : Prop := fnExactPolicyFaultUptoRow.holds Try.pinned (OpenSpec.upto fnExactPolicyFaultSpec)

/-- 'laws.FnExactSafeTags', WHERE WHAT IT READS IS OF BULK AT MOST 1048576: true; the input reads as it did. -/
def fnExactSafeTagsUptoRow : OpenClaim := { program := "ytlhjkjhppjogbaa", sum := "47c7096e049cc59eeed8defce0ea2a0eb50ec1079ff04529a6e2fd8c9f5f28f9", func := "loop.example/g00606/laws.FnExactSafeTags", spec := "fnExactSafeTags", apart := false, narrowed := true }
def FnExactSafeTagsUptoSaid : Prop := fnExactSafeTagsUptoRow.holds Try.pinned (OpenSpec.upto fnExactSafeTagsSpec)

/-- 'laws.FnExactMayTag', WHERE WHAT IT READS IS OF BULK AT MOST 1048576: true; the input reads as it did. -/
def fnExactMayTagUptoRow : OpenClaim := { program := "ytlhjkjhppjogbaa", sum := "47c7096e049cc59eeed8defce0ea2a0eb50ec1079ff04529a6e2fd8c9f5f28f9", func := "loop.example/g00606/laws.FnExactMayTag", spec := "fnExactMayTag", apart := false, narrowed := true }
def FnExactMayTagUptoSaid : Prop := fnExactMayTagUptoRow.holds Try.pinned (OpenSpec.upto fnExactMayTagSpec)

/-- 'laws.FnExactIsDropped', WHERE WHAT IT READS IS OF BULK AT MOST 1048576: true; the input reads as it did. -/
def fnExactIsDroppedUptoRow : OpenClaim := { program := "ytlhjkjhppjogbaa", sum := "47c7096e049cc59eeed8defce0ea2a0eb50ec1079ff04529a6e2fd8c9f5f28f9", func := "loop.example/g00606/laws.FnExactIsDropped", spec := "fnExactIsDropped", apart := false, narrowed := true }
def FnExactIsDroppedUptoSaid : Prop := fnExactIsDroppedUptoRow.holds Try.pinned (OpenSpec.upto fnExactIsDroppedSpec)

end Rows
end Go.Proofs.Ytlhjkjhppjogbaa
