/- Walks: references read, the program's side. -/
import Derived.Test.YtlaeomnacgjcgaaS10
import Derived.Test.YtlaeomnacgjcgaaR11
import Derived.BigQuiet
import Derived.Deep.QuietTactic
set_option linter.unusedVariables false
set_option linter.unusedSimpArgs false
namespace Go.Proofs.Ytlaeomnacgjcgaa
open Go.RowKit

end Go.Proofs.Ytlaeomnacgjcgaa

namespace Go.Proofs.Ytlaeomnacgjcgaa
open Go.RowKit

theorem semi_spec : ∀ (R : List UInt8) (n m : Nat), semi R n = some m → m < n ∧ ∃ S, R = R.take m ++ 59 :: S
  | [], 0, _, h => by cases h
  | _ :: _, 0, _, h => by cases h
  | [], _ + 1, _, h => by cases h
  | c :: r, n + 1, m, h => by
    simp only [semi] at h
    by_cases hc : c.toNat = 59
    · rw [if_pos hc] at h
      cases h
      have : c = 59 := UInt8.toNat_inj.1 hc
      subst this
      exact ⟨Nat.succ_pos _, r, rfl⟩
    · rw [if_neg hc] at h
      cases hs : semi r n with
      | none => rw [hs] at h; cases h
      | some k =>
        rw [hs] at h
        cases h
        obtain ⟨h1, S, h2⟩ := semi_spec r n k hs
        refine ⟨Nat.succ_lt_succ h1, S, ?_⟩
        show c :: r = c :: (r.take k ++ 59 :: S)
        rw [← h2]

theorem prefix_iff (L p : List UInt8) : Lib.hasPrefix L p = true ↔ ∃ S, L = p ++ S := by
  unfold Lib.hasPrefix
  rw [List.isPrefixOf_iff_prefix]
  exact ⟨fun ⟨S, h⟩ => ⟨S, h.symm⟩, fun ⟨S, h⟩ => ⟨S, h.symm⟩⟩

end Go.Proofs.Ytlaeomnacgjcgaa
