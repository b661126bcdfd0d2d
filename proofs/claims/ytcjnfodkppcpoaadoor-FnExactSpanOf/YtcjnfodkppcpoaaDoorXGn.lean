/- Places of a tree: both sides' DepthOf. -/
import Derived.Test.YtcjnfodkppcpoaaDoorXGf
namespace Go.Proofs.YtcjnfodkppcpoaaDoor
open Go.RowKit
set_option linter.unusedVariables false
set_option linter.unusedSimpArgs false

/-- What DepthOf tells. -/
def depR (l : List ND) (x : Int) : Int := if askF l x = 0 then (depU (upF l) x.toNat : Int) else 0

/-- What EndOf tells. -/
def endR (l : List ND) (x : Int) : Int := if askF l x = 0 then (endN l x.toNat : Int) else 0

/-- A tree in another box. -/
theorem TT.rebox {w0 w w' : World} {base g h : Nat} {l : List ND} {pa : Nat → Option Addr} {ca : Nat → Nat} {k : Nat} {vn vw : Value} (t : TT w0 base g l pa ca k vn vw w) (hb : Below w.heap.size w w') (hh : w.heap.size ≤ h) (hr : w'.rowIs h 54 2 (p2 vn vw)) : TT w0 base h l pa ca k vn vw w' := by
  have h1 := t.below hb
  exact ⟨hr, h1.on, h1.ow, h1.ap, fun e => by have := (t.on.lt _ e).2; omega, fun e => by have := (t.ow.lt _ e).2; omega, h1.bl, h1.sz, by have := t.sz; omega⟩

theorem ask_cases (l : List ND) (x : Int) : (¬ treeF l = 0 ∧ askF l x = treeF l) ∨ (treeF l = 0 ∧ ¬ (0 ≤ x ∧ x < (l.length : Int)) ∧ askF l x = 3) ∨ (treeF l = 0 ∧ askF l x = 0 ∧ ∃ m : Nat, x = (m : Int) ∧ m < l.length) := by
  unfold askF
  by_cases h : treeF l = 0
  · by_cases h2 : 0 ≤ x ∧ x < (l.length : Int)
    · exact .inr (.inr ⟨h, by rw [if_pos h, if_pos h2], x.toNat, by omega, by omega⟩)
    · exact .inr (.inl ⟨h, h2, by rw [if_pos h, if_neg h2]⟩)
  · exact .inl ⟨h, by rw [if_neg h]⟩

set_option maxHeartbeats 1600000 in
theorem hasPlace_any (g : Nat) (an : Option Addr) (n cn : Nat) (x : Int) (w : World) (h : w.cell? ⟨g, 0, none⟩ = some (.slice an n cn)) :
    Calls Tryd.prog 37 #[.pointer (some ⟨g, 0, none⟩), .int .i64 x] w fun e w' => e = .returned (.bool (decide (x ≥ 0) && decide (x < (n : Int)))) ∧ w' = w := by
  by_cases h1 : x ≥ 0
  · by_cases h2 : x < (n : Int)
    all_goals
      go_enter Tryd.func37, Tryd.ntmps37
      go_wp2_with go_big_skip
      go_ret
      exact ⟨by simp [h1, h2], rfl⟩
  · go_enter Tryd.func37, Tryd.ntmps37
    go_wp2_with go_big_skip
    go_ret
    exact ⟨by simp; omega, rfl⟩

end Go.Proofs.YtcjnfodkppcpoaaDoor
