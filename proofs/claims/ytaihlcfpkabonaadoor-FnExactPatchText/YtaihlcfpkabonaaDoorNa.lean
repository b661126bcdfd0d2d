/- Names: the letters that a text begins with, both sides. -/
import Derived.Test.YtaihlcfpkabonaaDoorChecked
import Derived.ProofKit
import Derived.OpenShut
import Derived.Test.YtaihlcfpkabonaaDoorLem
namespace Go.Proofs.YtaihlcfpkabonaaDoor
open Go.RowKit
set_option linter.unusedVariables false

/-- A letter a to z. -/
def ltr (c : Nat) : Prop := 97 ≤ c ∧ c ≤ 122
def ltrB (c : Nat) : Bool := decide (97 ≤ c) && decide (c ≤ 122)
theorem ltrB_iff (c : Nat) : ltrB c = true ↔ ltr c := by unfold ltrB ltr; rw [Bool.and_eq_true, decide_eq_true_eq, decide_eq_true_eq]
theorem ltrB_true {c : Nat} (h : ltr c) : ltrB c = true := (ltrB_iff c).2 h
theorem ltrB_false {c : Nat} (h : ¬ ltr c) : ltrB c = false := Bool.eq_false_iff.2 fun e => h ((ltrB_iff c).1 e)

/-- The first k bytes are letters. -/
def low (s : ByteArray) (k : Nat) : Prop := ∀ i (h : i < s.size), i < k → ltr (s[i]'h).toNat

/-- A text that is a name. -/
def isNm (s : ByteArray) : Prop := 1 ≤ s.size ∧ s.size ≤ 8 ∧ low s s.size

/-- Whether a text is a name. -/
def nmB (s : ByteArray) : Bool := decide (1 ≤ s.size) && decide (s.size ≤ 8) && s.data.toList.all (fun b => ltrB b.toNat)

theorem nmB_iff (s : ByteArray) : nmB s = true ↔ isNm s := by
  unfold nmB isNm low
  rw [Bool.and_eq_true, Bool.and_eq_true, decide_eq_true_eq, decide_eq_true_eq, List.all_eq_true]
  constructor
  · rintro ⟨⟨h1, h2⟩, h3⟩
    exact ⟨h1, h2, fun i hi _ => (ltrB_iff _).1 (h3 (s[i]'hi) (Array.mem_toList_iff.2 (Array.getElem_mem hi)))⟩
  · rintro ⟨h1, h2, h3⟩
    refine ⟨⟨h1, h2⟩, fun b hb => ltrB_true ?_⟩
    obtain ⟨i, hi, rfl⟩ := Array.mem_iff_getElem.1 (Array.mem_toList_iff.1 hb)
    exact h3 i hi hi

theorem nmB_true {s : ByteArray} (h : isNm s) : nmB s = true := (nmB_iff s).2 h
theorem nmB_false {s : ByteArray} (h : ¬ isNm s) : nmB s = false := Bool.eq_false_iff.2 fun e => h ((nmB_iff s).1 e)

theorem low_next {s : ByteArray} {k : Nat} (h : low s k) (hk : k < s.size) (hc : ltr (s[k]'hk).toNat) : low s (k + 1) := fun i hi hik => by
  by_cases e : i = k
  · subst e; exact hc
  · exact h i hi (by omega)

end Go.Proofs.YtaihlcfpkabonaaDoor
