/- Policies copied and compared; words that rise: both sides, and the law on PolicyFault. -/
import Derived.Test.YtaihlcfpkabonaaDoorCa
import Derived.Test.YtaihlcfpkabonaaDoorNa
namespace Go.Proofs.YtaihlcfpkabonaaDoor
open Go.RowKit
set_option linter.unusedVariables false
set_option linter.unusedSimpArgs false

theorem frz3 {w : World} {g : Nat} {T : TypeId} {f : Nat → Value} (h : w.rowIs g T 3 f) : w.frozen? ⟨g, 0, none⟩ = false ∧ w.frozen? ⟨g, 1, none⟩ = false ∧ w.frozen? ⟨g, 2, none⟩ = false := ⟨h.frozen 0, h.frozen 1, h.frozen 2⟩

/-- One text is behind no other one: it comes ahead, or is the same. -/
def leB (x y : ByteArray) : Bool := Op.bytesLess x.toList y.toList || (x.toList == y.toList)

/-- The code of words that come behind y. -/
def wfA : ByteArray → List ByteArray → Int
  | _, [] => 0
  | y, x :: r => if nmB x = true then (if leB x y = true then 1 else wfA x r) else 5

def wfault (l : List ByteArray) : Int := wfA ⟨#[]⟩ l

/-- What stands ahead of the k-th word. -/
def ahW (l : List ByteArray) : Nat → ByteArray
  | 0 => ⟨#[]⟩
  | k + 1 => sK l k

theorem wfA_step (l : List ByteArray) (y : ByteArray) (k : Nat) (hk : k < l.length) : wfA y (l.drop k) = if nmB (sK l k) = true then (if leB (sK l k) y = true then 1 else wfA (sK l k) (l.drop (k + 1))) else 5 := by
  have e : l.drop k = sK l k :: l.drop (k + 1) := by
    rw [List.drop_eq_getElem_cons hk]
    simp [sK, hk]
  rw [e]; rfl

theorem tlLoop (s : ByteArray) : ∀ (n i : Nat) (r : List UInt8), s.size - i = n → ByteArray.toList.loop s i r = r.reverse ++ s.data.toList.drop i := by
  intro n
  induction n with
  | zero =>
    intro i r h
    rw [ByteArray.toList.loop, if_neg (by omega)]
    have h2 : s.data.toList.length ≤ i := by
      have : s.data.toList.length = s.size := by simp
      omega
    rw [List.drop_eq_nil_of_le h2, List.append_nil]
  | succ n ih =>
    intro i r h
    have hi : i < s.size := by omega
    rw [ByteArray.toList.loop, if_pos hi, ih (i + 1) _ (by omega)]
    have h2 : i < s.data.toList.length := by
      have : s.data.toList.length = s.size := by simp
      omega
    rw [List.drop_eq_getElem_cons h2, List.reverse_cons, List.append_assoc]
    congr 1
    show [s.get! i] ++ _ = _
    have e : s.get! i = s.data.toList[i] := by
      show s.data[i]! = _
      rw [getElem!_pos s.data i (by simpa using h2)]
      simp
    rw [e]; rfl
theorem tlData (s : ByteArray) : s.toList = s.data.toList := by
  unfold ByteArray.toList
  rw [tlLoop s _ 0 [] rfl]
  simp

theorem leB_none {x : ByteArray} (h : nmB x = true) : leB x ⟨#[]⟩ = false := by
  have h1 := ((nmB_iff x).1 h).1
  unfold leB
  have e : (⟨#[]⟩ : ByteArray).toList = [] := by decide +kernel
  rw [e]
  have e2 : Op.bytesLess x.toList [] = false := by cases x.toList <;> rfl
  rw [e2, Bool.false_or]
  cases hx : x.toList with
  | nil =>
    rw [tlData] at hx
    have h2 : x.data.toList.length = x.size := by simp
    rw [hx] at h2
    simp at h2
    omega
  | cons a r => rfl

/-- The code of a policy. -/
def polF (p : PO) : Int := if 10 < p.tg.length ∨ 10 < p.at_.length ∨ 10 < p.sc.length then 2 else if ¬ wfault p.tg = 0 then wfault p.tg else if ¬ wfault p.at_ = 0 then wfault p.at_ else wfault p.sc

end Go.Proofs.YtaihlcfpkabonaaDoor
