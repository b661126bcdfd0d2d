/- Walks: the text of a table, the model's side. -/
import Derived.Test.YtbdjppiagjhfmaaWi
import Derived.Test.YtbdjppiagjhfmaaTxt
namespace Go.Proofs.Ytbdjppiagjhfmaa
open Go.RowKit
set_option linter.unusedVariables false

theorem kept2 (w : World) (g o1 o2 : Nat) (v1 v2 : Value) : KeptIn g (g + 1) w ((w.setCell ⟨g, o1, none⟩ v1).setCell ⟨g, o2, none⟩ v2) :=
  ((KeptIn.refl g (g + 1) w).setCell (p := ⟨g, o1, none⟩) (Nat.le_refl _) (Nat.lt_succ_self _) _).setCell (p := ⟨g, o2, none⟩) (Nat.le_refl _) (Nat.lt_succ_self _) _

/-- The store of a piece, as a slice in memory. -/
theorem store_at {w : World} {a1 a2 : Option Addr} {c1 c2 : Nat} {t : TB} (p : PC) (h1 : BAt w a1 t.base) (h2 : BAt w a2 t.more) (h0 : 0 < (store t p).length) (k1 : t.base.length ≤ c1) (k2 : t.more.length ≤ c2) :
    ∃ b o c, (if p.ad then Value.slice a2 t.more.length c2 else Value.slice a1 t.base.length c1) = .slice (some ⟨b, o, none⟩) (store t p).length c ∧ (store t p).length ≤ c ∧ b < w.heap.size ∧ ∀ k, k < (store t p).length → w.cell? ⟨b, o + k, none⟩ = some (bv (store t p) k) := by
  unfold store at *
  cases hp : p.ad <;> rw [hp] at h0
  · rcases h1 with h1 | ⟨b, o, rfl, hb, hc⟩
    · simp [h1] at h0
    · exact ⟨b, o, c1, rfl, k1, hb, hc⟩
  · rcases h2 with h2 | ⟨b, o, rfl, hb, hc⟩
    · simp [h2] at h0
    · exact ⟨b, o, c2, rfl, k2, hb, hc⟩

/-- The bytes that are told beside the code. -/
def textVal (t : TB) : List Int := if fault t = 0 then text t else []

end Go.Proofs.Ytbdjppiagjhfmaa
