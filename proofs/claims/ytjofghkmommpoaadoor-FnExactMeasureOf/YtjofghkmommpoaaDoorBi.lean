/- The law on MeasureOf. -/
import Derived.Test.YtjofghkmommpoaaDoorBh
namespace Go.Proofs.YtjofghkmommpoaaDoor
open Go.RowKit
set_option linter.unusedVariables false
set_option linter.unusedSimpArgs false

set_option maxHeartbeats 800000 in
theorem lawMO_any (s : ByteArray) (w : World) (hs : (s.size : Int) ≤ 9223372036854775807) (t : TBL w) :
    Calls Tryd.prog 3 #[.string s] w fun e w' => e = .returned (.bool true) ∧ Below w.heap.size w w' := by
  by_cases g0 : (s.size : Int) > 1048576
  · go_enter Tryd.func3, Tryd.ntmps3
    go_wp2
    go_ret
    exact ⟨rfl, Below.refl _ _⟩
  have K1 := Hid.mk' (specMO_any s w (by omega))
  have K2 : Hid (∀ W : World, TBL W → Calls Tryd.prog 5 #[.string s] W fun e w' => e = .returned (.agg #[.int .i64 (moC s), .int .i64 (moV s)]) ∧ Below W.heap.size W w') := fun W h => implMO_any s W (by omega) h
  have HT := Hid.mk' t
  clear t
  generalize moC s = c at *
  generalize moV s = v at *
  go_enter Tryd.func3, Tryd.ntmps3
  go_wp2_with fail
  refine K1.out.mono ?_
  rintro e w1 ⟨rfl, hb1⟩
  have B1 := Hid.mk' (hb1.alloc hb1.size (.cells #[.int .i64 c, .int .i64 v] 23))
  have RW := Hid.mk' (rowQ2 w1 23 (.int .i64 c) (.int .i64 v))
  have T1 := Hid.mk' (HT.out.below B1.out)
  clear K1 hb1
  generalize hW1 : w1.alloc (.cells #[.int .i64 c, .int .i64 v] 23) = W1 at *
  go_wp2_with fail
  clear hW1
  refine (K2.out _ T1.out).mono ?_
  rintro e w2 ⟨rfl, hb2⟩
  have N2 := below_new w2 (.cells #[.int .i64 c, .int .i64 v] 23)
  have M2 := hb2.trans (N2.mono hb2.size)
  have HB := Hid.mk' (B1.out.trans (M2.mono B1.out.size))
  have RW := Hid.mk' (rowB RW.out M2)
  have RG := Hid.mk' (rowQ2 w2 23 (.int .i64 c) (.int .i64 v))
  clear hb2 N2 M2 K2
  generalize hW2 : w2.alloc (.cells #[.int .i64 c, .int .i64 v] 23) = W2 at *
  obtain ⟨g0', g1, g2⟩ := cellsQ2 RG.out
  obtain ⟨k0, k1, k2⟩ := cellsQ2 RW.out
  go_wp2_with fail
  clear hW2
  refine (eqIntResult_any c v W2).mono ?_
  rintro e w3 ⟨rfl, hb3⟩
  have HB := Hid.mk' (HB.out.trans (hb3.mono HB.out.size))
  clear hb3 g0' g1 g2 k0 k1 k2
  go_wp2
  go_ret
  exact ⟨rfl, HB.out⟩

end Go.Proofs.YtjofghkmommpoaaDoor
