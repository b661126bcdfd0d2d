/- Measures that are drawn: what the kernel tells of each. -/
import Derived.Test.YteakocifjmkmjaaGreatDoorBm
import Derived.Test.YteakocifjmkmjaaGreatDoorBj
import Derived.Test.YteakocifjmkmjaaGreatDoorMd
import Derived.Test.YteakocifjmkmjaaGreatDoorMe
namespace Go.Proofs.YteakocifjmkmjaaGreatDoor
open Go.RowKit
set_option linter.unusedVariables false
set_option linter.unusedSimpArgs false

/-- The same, as the kernel can reckon it. -/
def moBk (s : ByteArray) : Bool := (s.data.toList == [110, 97, 110]) || ((restT s).data.toList == [105, 110, 102]) || okR (restT s)
def moVk (s : ByteArray) : Int := if (s.data.toList == [110, 97, 110]) = true then 9221120237041090560 else if ((restT s).data.toList == [105, 110, 102]) = true then signBits (minusB s) 9218868437227405312 else if okR (restT s) = true then signBits (minusB s) (wordQ (qR (restT s))) else 0
theorem moBk_is (s : ByteArray) : moB s = moBk s := by unfold moB moBk nanB infB; rw [ByteArray.toList_eq, ByteArray.toList_eq]
theorem moVk_is (s : ByteArray) : moV s = moVk s := by unfold moV moVk nanB infB; rw [ByteArray.toList_eq, ByteArray.toList_eq]
def wtCk (s : ByteArray) : Int := if moBk s = true then (if width (moVk s) = true then 0 else 3) else 5
def wtTk (s : ByteArray) : ByteArray := if moBk s = true then (if width (moVk s) = true then mtT (rung (moVk s) : Int) else ⟨#[]⟩) else ⟨#[]⟩
theorem wtCk_is (s : ByteArray) : wtC s = wtCk s := by unfold wtC wtCk; rw [moBk_is, moVk_is]
theorem wtTk_is (s : ByteArray) : wtT s = wtTk s := by unfold wtT wtTk; rw [moBk_is, moVk_is]

/-- What is asked of a drawn measure. -/
def chkM (b : Int) : Bool :=
  (!decide (partsC b = 0) || (decide (bitsV (partsM b) (partsW b) (partsQ b) = b) && decide (bitsC (partsW b) (partsQ b) = 0))) &&
  (!decide (mtC b = 0) || (moBk (mtT b) && (decide (moVk (mtT b) = b) || ((mtT b).data.toList == [110, 97, 110])) && decide ((mtT (moVk (mtT b))).data.toList = (mtT b).data.toList) && decide ((mtT b).size ≤ 100)))

set_option maxRecDepth 100000 in
theorem chkM_all : (drawnN.all fun n => chkM (signBits true n) && chkM (signBits false n)) = true := by decide +kernel

theorem chkM_of {b : Int} (h : Drawn3 b) : chkM b = true := by
  obtain ⟨m, n, hn, rfl⟩ := h
  have := List.all_eq_true.1 chkM_all n hn
  rw [Bool.and_eq_true] at this
  cases m
  · exact this.2
  · exact this.1

theorem drawn_bd {b : Int} (h : Drawn3 b) : -9223372036854775808 ≤ b ∧ b ≤ 9223372036854775807 := by
  obtain ⟨m, n, hn, rfl⟩ := h
  have := drawn_lt hn
  unfold signBits
  split <;> omega

theorem ba_same {x y : ByteArray} (h : x.data.toList = y.data.toList) : x = y := by
  cases x; cases y
  simp at h
  rw [h]

theorem parts_back {b : Int} (h : Drawn3 b) (hc : partsC b = 0) : bitsV (partsM b) (partsW b) (partsQ b) = b := by
  have := chkM_of h
  unfold chkM at this
  rw [decide_eq_true hc] at this
  simp only [Bool.not_true, Bool.false_or, Bool.and_eq_true, decide_eq_true_eq] at this
  exact this.1.1

theorem text_back {b : Int} (h : Drawn3 b) (hc : mtC b = 0) : moB (mtT b) = true ∧ (moV (mtT b) = b ∨ ((mtT b).toList == [110, 97, 110]) = true) ∧ mtT (moV (mtT b)) = mtT b ∧ (mtT b).size ≤ 100 := by
  have := chkM_of h
  unfold chkM at this
  rw [decide_eq_true hc] at this
  simp only [Bool.not_true, Bool.false_or, Bool.and_eq_true, Bool.or_eq_true, decide_eq_true_eq] at this
  obtain ⟨_, ⟨⟨⟨a1, a2⟩, a3⟩, a4⟩⟩ := this
  rw [moBk_is, moVk_is, ByteArray.toList_eq]
  exact ⟨a1, a2, ba_same a3, a4⟩

/-- What is asked of drawn parts. -/
def chkB (m : Bool) (x y : Int) : Bool := !decide (bitsC x y = 0) || (decide (partsM (bitsV m x y) = m) && decide (partsW (bitsV m x y) = x) && decide (partsQ (bitsV m x y) = y))
theorem chkB_all : (drawnX.all fun x => drawnY.all fun y => chkB true x y && chkB false x y) = true := by decide +kernel
theorem bits_back {m : Bool} {x y : Int} (hx : x ∈ drawnX) (hy : y ∈ drawnY) (hc : bitsC x y = 0) : partsM (bitsV m x y) = m ∧ partsW (bitsV m x y) = x ∧ partsQ (bitsV m x y) = y := by
  have := List.all_eq_true.1 (List.all_eq_true.1 chkB_all x hx) y hy
  rw [Bool.and_eq_true] at this
  have k : chkB m x y = true := by cases m; exact this.2; exact this.1
  unfold chkB at k
  rw [decide_eq_true hc] at k
  simp only [Bool.not_true, Bool.false_or, Bool.and_eq_true, decide_eq_true_eq] at k
  exact ⟨k.1.1, k.1.2, k.2⟩
theorem bits_bd {m : Bool} {x y : Int} (hx : x ∈ drawnX) (hy : y ∈ drawnY) : -9223372036854775808 ≤ bitsV m x y ∧ bitsV m x y ≤ 9223372036854775807 := by
  have : ∀ m : Bool, ∀ x ∈ drawnX, ∀ y ∈ drawnY, -9223372036854775808 ≤ bitsV m x y ∧ bitsV m x y ≤ 9223372036854775807 := by decide +kernel
  exact this m x hx y hy

/-- What is asked of a drawn width. -/
def chkW (t : ByteArray) : Bool := !decide (wtCk t = 0) || (decide ((wtTk (wtTk t)).data.toList = (wtTk t).data.toList) && moBk (wtTk t) && width (moVk (wtTk t)) && !((wtTk t).data.toList == [110, 97, 110]) && !((wtTk t).data.toList == [105, 110, 102]) && decide (1 ≤ (wtTk t).size) && decide (byS (wtTk t) 0 ≠ 45) && decide ((wtTk t).size ≤ 100))
theorem chkW_all : ∀ i, i < 2 → ∀ j, j < 17 → chkW (sK sgnL i ++ sK txtL j) = true := by decide +kernel
theorem txt_size : ∀ i, i < 2 → ∀ j, j < 17 → (sK sgnL i ++ sK txtL j).size ≤ 100 := by decide +kernel

theorem width_back {i j : Nat} (hi : i < 2) (hj : j < 17) {t : ByteArray} (ht : t = sK sgnL i ++ sK txtL j) (hc : wtC t = 0) :
    wtT (wtT t) = wtT t ∧ moB (wtT t) = true ∧ width (moV (wtT t)) = true ∧ ((wtT t).toList == [110, 97, 110]) = false ∧ ((wtT t).toList == [105, 110, 102]) = false ∧ 1 ≤ (wtT t).size ∧ byS (wtT t) 0 ≠ 45 ∧ (wtT t).size ≤ 100 := by
  subst ht
  have := chkW_all i hi j hj
  generalize sK sgnL i ++ sK txtL j = t at *
  unfold chkW at this
  rw [wtCk_is] at hc
  rw [decide_eq_true hc] at this
  simp only [Bool.not_true, Bool.false_or, Bool.and_eq_true, decide_eq_true_eq, Bool.not_eq_true'] at this
  obtain ⟨⟨⟨⟨⟨⟨⟨a1, a2⟩, a3⟩, a4⟩, a5⟩, a6⟩, a7⟩, a8⟩ := this
  rw [ByteArray.toList_eq, wtTk_is t, wtTk_is (wtTk t), moBk_is, moVk_is]
  exact ⟨ba_same a1, a2, a3, a4, a5, a6, a7, a8⟩

end Go.Proofs.YteakocifjmkmjaaGreatDoor
