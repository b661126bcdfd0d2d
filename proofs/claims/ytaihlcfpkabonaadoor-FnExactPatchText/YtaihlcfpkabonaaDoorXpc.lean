/- PatchSize: the model, the program. -/
import Derived.Test.YtaihlcfpkabonaaDoorXpb
import Derived.Test.YtaihlcfpkabonaaDoorLsz
namespace Go.Proofs.YtaihlcfpkabonaaDoor
open Go.RowKit
set_option linter.unusedVariables false
set_option linter.unusedSimpArgs false

theorem tooMuch_any (x y : Int) (p : Option Addr) (n d : Nat) (w : World) :
    Calls Tryd.prog 22 #[.agg #[.int .i64 x, .int .i64 y, .slice p n d]] w fun e w' => e = .returned (.bool (decide (240 < (n : Int)))) ∧ Below w.heap.size w w' := by
  by_cases g : 240 < (n : Int)
  · go_enter Tryd.func22, Tryd.ntmps22
    go_wp2
    go_ret
    exact ⟨by simp [g], (Below.refl _ _).alloc (Nat.le_refl _) _⟩
  · go_enter Tryd.func22, Tryd.ntmps22
    go_wp2
    go_ret
    exact ⟨by simp [g], (Below.refl _ _).alloc (Nat.le_refl _) _⟩

end Go.Proofs.YtaihlcfpkabonaaDoor
