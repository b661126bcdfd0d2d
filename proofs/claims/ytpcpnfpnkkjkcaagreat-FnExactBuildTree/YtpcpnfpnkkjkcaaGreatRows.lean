/-
  No cell of these rows narrows 'for every input' (looked for: loops, veiled, ifaces, maps, wideKeys, modest, calm, conditions, laid).
  DERIVED. THE GIVEN ROWS OF THIS SEAT. 3 by the template 'for every input the law returns true; each argument reads behind the call as it read before'; 0 by the template 'total and deterministic' (their statements: YtpcpnfpnkkjkcaaGreatTotals.lean).
  GIVEN WITH THE SEED: the statements are not yours to turn. If you find one false, say at which input.
  Laid BY PROGRAM, IN A SANDBOX (cutbox-rows.mjs): the forced cells as the released guide's own fill.sh prints them over the translation 7a7768506733f1e4… (all of the seat's roots in one cut). By AI agents, Wed Nov 11 2026. No macro, syntax, notation, axiom, sorry.
-/
import Derived.Test.YtpcpnfpnkkjkcaaGreatChecked
import GoSem.Claim
import GoSem.ClaimJoined
import GoSem.ClaimMapViews
import Derived.JoinedTies
import Derived.KernelRfl
namespace Go.Proofs.YtpcpnfpnkkjkcaaGreat
/- THE CELL 'sum', in the pinned program and in every row, IS THE sha256 OF THE DUMP (.gsa) THAT YtpcpnfpnkkjkcaaGreatProg.lean LOADS. Nothing in Lean hashes anything: it is a label: what it is worth is what the hold of that sum in a sandbox is worth. -/
noncomputable def Tryz.pinned : Pinned := { name := "ytpcpnfpnkkjkcaagreat", sum := "7a7768506733f1e41a067d124d0f5163321e28567ed892df1e6eee050a61d5b6", checked := Tryz.checked }
namespace Rows
def none {H : Type} : Left H := { results := [], args := [] }

/-- 'laws.FnExactPutToken': WHATEVER THE INPUT: true; the input reads as it did. -/
def fnExactPutTokenSpec : ChangeSpec := { name := "fnExactPutToken", fn := fun _ => fun
  | [d1, d2] => { results := [.lit (.bool true)], args := [d1, d2] }
  | _ => none }
def fnExactPutTokenRow : OpenClaim := { program := "ytpcpnfpnkkjkcaagreat", sum := "7a7768506733f1e41a067d124d0f5163321e28567ed892df1e6eee050a61d5b6", func := "loop.example/g00606/laws.FnExactPutToken", spec := "fnExactPutToken", apart := false }
def FnExactPutTokenSaid : Prop := fnExactPutTokenRow.holds Tryz.pinned (OpenSpec.ofChange fnExactPutTokenSpec)

/-- ITS FALSE NEIGHBOUR: 'it returns false'. Refute it at one input. -/
def fnExactPutTokenWrong : ChangeSpec := { name := "fnExactPutToken", fn := fun _ => fun
  | [d1, d2] => { results := [.lit (.bool false)], args := [d1, d2] }
  | _ => none }
def FnExactPutTokenWrongFalsely : Prop := fnExactPutTokenRow.holds Tryz.pinned (OpenSpec.ofChange fnExactPutTokenWrong)

/-- 'laws.FnExactPutAll': WHATEVER THE INPUT: true; the input reads as it did. -/
def fnExactPutAllSpec : ChangeSpec := { name := "fnExactPutAll", fn := fun _ => fun
  | [d1, d2] => { results := [.lit (.bool true)], args := [d1, d2] }
  | _ => none }
def fnExactPutAllRow : OpenClaim := { program := "ytpcpnfpnkkjkcaagreat", sum := "7a7768506733f1e41a067d124d0f5163321e28567ed892df1e6eee050a61d5b6", func := "loop.example/g00606/laws.FnExactPutAll", spec := "fnExactPutAll", apart := false }
def FnExactPutAllSaid : Prop := fnExactPutAllRow.holds Tryz.pinned (OpenSpec.ofChange fnExactPutAllSpec)

/-- ITS FALSE NEIGHBOUR: 'it returns false'. Refute it at one input. -/
def fnExactPutAllWrong : ChangeSpec := { name := "fnExactPutAll", fn := fun _ => fun
  | [d1, d2] => { results := [.lit (.bool false)], args := [d1, d2] }
  | _ => none }
def FnExactPutAllWrongFalsely : Prop := fnExactPutAllRow.holds Tryz.pinned (OpenSpec.ofChange fnExactPutAllWrong)

/-- 'laws.FnExactBuildTree': WHATEVER THE INPUT: true; the input reads as it did. -/
def fnExactBuildTreeSpec : ChangeSpec := { name := "fnExactBuildTree", fn := fun _ => fun
  | [d] => { results := [.lit (.bool true)], args := [d] }
  | _ => none }
def fnExactBuildTreeRow : OpenClaim := { program := "ytpcpnfpnkkjkcaagreat", sum := "7a7768506733f1e41a067d124d0f5163321e28567ed892df1e6eee050a61d5b6", func := "loop.example/g00606/laws.FnExactBuildTree", spec := "fnExactBuildTree", apart := false }
def FnExactBuildTreeSaid : Prop := fnExactBuildTreeRow.holds Tryz.pinned (OpenSpec.ofChange fnExactBuildTreeSpec)

/-- ITS FALSE NEIGHBOUR: 'it returns false'. Refute it at one input. -/
def fnExactBuildTreeWrong : ChangeSpec := { name := "fnExactBuildTree", fn := fun _ => fun
  | [d] => { results := [.lit (.bool false)], args := [d] }
  | _ => none }
def FnExactBuildTreeWrongFalsely : Prop := fnExactBuildTreeRow.holds Tryz.pinned (OpenSpec.ofChange fnExactBuildTreeWrong)

/- THE SECOND FORM. 'bulk': how many values and letters a reading holds, each counted each time it is reached (what is shared counts as often as it is met; a slice's spare places count too). A statement '..UptoSaid' is the law's where the arguments, and the package variables that the reading takes, are together of bulk at most 1048576: NARROWER than '..Said'. Prove '..Said' where nothing that the law and all that it calls make is longer than what came in: it says more and counts as full. Else prove '..UptoSaid'. A law counts once. -/
mutual
def uptoBulk {H : Type} : DataW H → Nat
  | .lit (.string bytes) => bytes.length + 1
  | .lit _ => 1
  | .nil => 1
  | .ptr d => uptoBulk d + 1
  | .slice elems spare => uptoBulkAll elems + uptoBulkAll spare + 1
  | .agg parts => uptoBulkAll parts + 1
  | .iface _ d => uptoBulk d + 1
  | .map entries => uptoBulkEntries entries + 1
  | .held _ => 1
def uptoBulkAll {H : Type} : List (DataW H) → Nat
  | [] => 0
  | d :: r => uptoBulk d + uptoBulkAll r
def uptoBulkEntries {H : Type} : List (Lit × DataW H) → Nat
  | [] => 0
  | x :: r => uptoBulkEntry x + uptoBulkEntries r
def uptoBulkEntry {H : Type} : Lit × DataW H → Nat
  | (.string bytes, d) => bytes.length + uptoBulk d + 1
  | (_, d) => uptoBulk d + 1
 end
def uptoSmall : (H : Type) → List (DataW H) → Bool := fun _ ds => decide (uptoBulkAll ds ≤ 1048576)
def OpenSpec.upto (s : _root_.Go.ChangeSpec) : _root_.Go.OpenSpec := { _root_.Go.OpenSpec.ofChange s with cond := some uptoSmall }

/-- 'laws.FnExactPutToken', WHERE WHAT IT READS IS OF BULK AT MOST 1048576: true; the input reads as it did. -/
def fnExactPutTokenUptoRow : OpenClaim := { program := "ytpcpnfpnkkjkcaagreat", sum := "7a7768506733f1e41a067d124d0f5163321e28567ed892df1e6eee050a61d5b6", func := "loop.example/g00606/laws.FnExactPutToken", spec := "fnExactPutToken", apart := false, narrowed := true }
def FnExactPutTokenUptoSaid : Prop := fnExactPutTokenUptoRow.holds Tryz.pinned (OpenSpec.upto fnExactPutTokenSpec)

/-- 'laws.FnExactPutAll', WHERE WHAT IT READS IS OF BULK AT MOST 1048576: true; the input reads as it did. -/
def fnExactPutAllUptoRow : OpenClaim := { program := "ytpcpnfpnkkjkcaagreat", sum := "7a7768506733f1e41a067d124d0f5163321e28567ed892df1e6eee050a61d5b6", func := "loop.example/g00606/laws.FnExactPutAll", spec := "fnExactPutAll", apart := false, narrowed := true }
def FnExactPutAllUptoSaid : Prop := fnExactPutAllUptoRow.holds Tryz.pinned (OpenSpec.upto fnExactPutAllSpec)

/-- 'laws.FnExactBuildTree', WHERE WHAT IT READS IS OF BULK AT MOST 1048576: true; the input reads as it did. -/
def fnExactBuildTreeUptoRow : OpenClaim := { program := "ytpcpnfpnkkjkcaagreat", sum := "7a7768506733f1e41a067d124d0f5163321e28567ed892df1e6eee050a61d5b6", func := "loop.example/g00606/laws.FnExactBuildTree", spec := "fnExactBuildTree", apart := false, narrowed := true }
def FnExactBuildTreeUptoSaid : Prop := fnExactBuildTreeUptoRow.holds Tryz.pinned (OpenSpec.upto fnExactBuildTreeSpec)

end Rows
end Go.Proofs.YtpcpnfpnkkjkcaaGreat
