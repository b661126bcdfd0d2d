/- Walks: lists of tokens that are the same are told so; the model's SameTokens. -/
import Derived.Test.YtgkdplooocbonaaGreatDoorXTo
import Derived.BigGuard
import Derived.Laws.BytesString
import Derived.Laws.IdiomStrings
import Derived.Test.YtgkdplooocbonaaGreatDoorXV7
namespace Go.Proofs.YtgkdplooocbonaaGreatDoor
open Go.RowKit
set_option linter.unusedVariables false
set_option linter.unusedSimpArgs false

end Go.Proofs.YtgkdplooocbonaaGreatDoor

/- The model's SameTokens. -/
namespace Go.Proofs.YtgkdplooocbonaaGreatDoor
open Go.RowKit
set_option linter.unusedVariables false
set_option linter.unusedSimpArgs false

/-- All of the first n. -/
def allK (n : Nat) (p : Nat → Bool) : Bool := (List.range n).all p
theorem allK_true {n : Nat} {p : Nat → Bool} (h : ∀ k, k < n → p k = true) : allK n p = true := by
  unfold allK; rw [List.all_eq_true]; intro k hk; exact h k (List.mem_range.1 hk)
theorem allK_false {n k : Nat} {p : Nat → Bool} (hk : k < n) (h : p k = false) : allK n p = false := by
  rw [Bool.eq_false_iff]; intro e
  unfold allK at e; rw [List.all_eq_true] at e
  rw [e k (List.mem_range.2 hk)] at h; cases h

def aeq (x y : AT) : Bool := (x.nm.toList == y.nm.toList) && ((strI x.vl).toList == (strI y.vl).toList)
def sameAs (l m : List AT) : Bool := decide (l.length = m.length) && allK l.length (fun k => aeq (atK l k) (atK m k))
def teq (x y : TK) : Bool := (x.kd == y.kd) && (x.by_ == y.by_) && (x.nm.toList == y.nm.toList) && (x.sh == y.sh) && sameAs x.at_ y.at_
def sameTs (l m : List TK) : Bool := decide (l.length = m.length) && allK l.length (fun k => teq (tkK l k) (tkK m k))

end Go.Proofs.YtgkdplooocbonaaGreatDoor

/- The model's SameTokens, whole. -/
namespace Go.Proofs.YtgkdplooocbonaaGreatDoor
open Go.RowKit
set_option linter.unusedVariables false
set_option linter.unusedSimpArgs false

end Go.Proofs.YtgkdplooocbonaaGreatDoor

/- The model's SameTokens: the loop. -/
namespace Go.Proofs.YtgkdplooocbonaaGreatDoor
open Go.RowKit
set_option linter.unusedVariables false
set_option linter.unusedSimpArgs false

end Go.Proofs.YtgkdplooocbonaaGreatDoor
