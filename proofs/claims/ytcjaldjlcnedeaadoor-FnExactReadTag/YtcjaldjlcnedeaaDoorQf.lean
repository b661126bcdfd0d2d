/- The law on RefAt. -/
import Derived.Test.YtcjaldjlcnedeaaDoorQe
namespace Go.Proofs.YtcjaldjlcnedeaaDoor
open Go.RowKit
set_option linter.unusedVariables false

def raOf (L : List UInt8) (x : Int) : Int × Int × Int := if 0 ≤ x ∧ x < L.length then (if (refOf (L.drop x.toNat)).2 = 0 then (5, 0, 0) else (0, (refOf (L.drop x.toNat)).1, (refOf (L.drop x.toNat)).2)) else (3, 0, 0)
theorem tail_list (s : ByteArray) (k : Nat) : (s.extract k s.size).data.toList = s.data.toList.drop k := by
  rw [ext_list, List.take_of_length_le (by rw [List.length_drop, len_list]; omega)]
theorem three {B : Nat} {w w' : World} (h : Below B w w') {c : Nat} {v1 v2 v3 : Value} (hc : B ≤ c) : Below B w (((w'.setCell ⟨c, 0, none⟩ v1).setCell ⟨c, 1, none⟩ v2).setCell ⟨c, 2, none⟩ v3) :=
  ((h.setCell (p := ⟨c, 0, none⟩) hc _).setCell (p := ⟨c, 1, none⟩) hc _).setCell (p := ⟨c, 2, none⟩) hc _

theorem refOf_byte (L : List UInt8) : (refOf L).1 ≤ 255 := by
  cases L with
  | nil => exact Nat.zero_le _
  | cons c R =>
    rw [refOf]
    split
    · cases semi R 5 with
      | none => exact Nat.zero_le _
      | some m =>
        cases hn : namedOf (R.take m) with
        | none => simp only [hn]; exact Nat.zero_le _
        | some b =>
          simp only [hn]
          unfold namedOf at hn
          split at hn
          · cases hn; decide
          split at hn
          · cases hn; decide
          split at hn
          · cases hn; decide
          split at hn
          · cases hn; decide
          split at hn
          · unfold numOf at hn
            split at hn
            · split at hn
              · rename_i h; cases hn; exact h.2
              · cases hn
            · cases hn
          · cases hn
    · exact Nat.zero_le _

end Go.Proofs.YtcjaldjlcnedeaaDoor
