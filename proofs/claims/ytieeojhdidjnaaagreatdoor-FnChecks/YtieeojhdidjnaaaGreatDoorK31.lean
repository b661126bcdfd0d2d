/- Ways: the places that a place is in, the outermost first. -/
import Derived.WalkKit
import Derived.Test.YtieeojhdidjnaaaGreatDoorK2
import Derived.Test.YtieeojhdidjnaaaGreatDoorK14
import Derived.Test.YtieeojhdidjnaaaGreatDoorK17
import Derived.Test.YtieeojhdidjnaaaGreatDoorK27
import Derived.Test.YtieeojhdidjnaaaGreatDoorK30
import Derived.Test.YtieeojhdidjnaaaGreatDoorK23
import Derived.Test.YtieeojhdidjnaaaGreatDoorK28
set_option linter.unusedVariables false
set_option linter.unusedSimpArgs false
namespace Go.Proofs.YtieeojhdidjnaaaGreatDoor

end Go.Proofs.YtieeojhdidjnaaaGreatDoor

namespace Go.Proofs.YtieeojhdidjnaaaGreatDoor
open Go.RowKit

end Go.Proofs.YtieeojhdidjnaaaGreatDoor

namespace Go.Proofs.YtieeojhdidjnaaaGreatDoor
open Go.RowKit

end Go.Proofs.YtieeojhdidjnaaaGreatDoor

namespace Go.Proofs.YtieeojhdidjnaaaGreatDoor
open Go.RowKit

end Go.Proofs.YtieeojhdidjnaaaGreatDoor

namespace Go.Proofs.YtieeojhdidjnaaaGreatDoor
open Go.RowKit

end Go.Proofs.YtieeojhdidjnaaaGreatDoor

namespace Go.Proofs.YtieeojhdidjnaaaGreatDoor
open Go.RowKit

theorem rowT_cell {lo g cap : Nat} {w : World} {ts : List TK} {us : List Value} (hl : us.length = ts.length) (h : w.ownsRow lo 107 5 (.slice (some ⟨g, 0, none⟩) ts.length cap) ts.length (tcs ts us)) {n i : Nat} (hn : n < ts.length) (hi : i < 5) : w.cell? ⟨g, n * 5 + i, none⟩ = ([.int .i64 (tkK ts n).kd, .int .i64 (tkK ts n).by_, .string (tkK ts n).nm, us.getD n undef, .bool (tkK ts n).sh] : List Value)[i]? ∧ w.frozen? ⟨g, n * 5 + i, none⟩ = false := by
  rcases h.2 with ⟨h0, _⟩ | ⟨g', cap', cur, hv, hg, hh, hc, hm, hs', ht⟩
  · cases h0
  · cases hv
    refine ⟨?_, Lib.frozen_of_heap hh _⟩
    rw [Lib.cell_of_heap hh, ← tcs_get ts us n i hl hn hi, ← ht, List.getElem?_take_of_lt (by omega)]
    simp

theorem row_tsAt {w : World} {lo : Nat} {v : Value} {ts : List TK} {us : List Value} (hl : us.length = ts.length) (h : w.ownsRow lo 107 5 v ts.length (tcs ts us)) (ha : ∀ j, j < ts.length → ∃ p c, us.getD j undef = .slice p (tkK ts j).at_.length c ∧ AAt w p (tkK ts j).at_) : ∃ a c, v = .slice a ts.length c ∧ TsAt w a ts := by
  by_cases h0 : ts = []
  · subst h0
    obtain ⟨a, c, e, _⟩ := own_src h
    exact ⟨a, c, e, .inl rfl⟩
  · have hp : 0 < ts.length := List.length_pos_iff.2 h0
    rcases h.2 with ⟨rfl, h9⟩ | ⟨g, cap, cur, rfl, hg, hh, hc, hm, hs, ht⟩
    · omega
    · have glt : g < w.heap.size := Nat.lt_of_not_le fun hn => by rw [Array.getElem?_eq_none hn] at hh; cases hh
      refine ⟨_, _, rfl, .inr ⟨g, 0, rfl, glt, fun k hk => ?_⟩⟩
      have cc := fun i hi => (rowT_cell hl h hk (i := i) hi).1
      obtain ⟨p, c, e, haa⟩ := ha k hk
      simp only [Nat.zero_add]
      refine ⟨cc 0 (by omega), cc 1 (by omega), cc 2 (by omega), ⟨p, c, ?_, haa⟩, cc 4 (by omega)⟩
      rw [cc 3 (by omega), ← e]; rfl

theorem TokS.tsAt {base : Nat} {w : World} {v : Value} {ts : List TK} {us : List Value} (h : TokS base w v ts us) : ∃ a c, v = .slice a ts.length c ∧ TsAt w a ts :=
  row_tsAt h.len h.row (fun j hj => by
    have h1 : ts[j]? = some (tkK ts j) := by simp [tkK, List.getD_eq_getElem?_getD, hj]
    have h2 : us[j]? = some (us.getD j undef) := by simp [List.getD_eq_getElem?_getD, h.len, hj]
    obtain ⟨rs, ho⟩ := (h.all j _ _ h1 h2).held
    exact ho.at)

end Go.Proofs.YtieeojhdidjnaaaGreatDoor

namespace Go.Proofs.YtieeojhdidjnaaaGreatDoor
open Go.RowKit

end Go.Proofs.YtieeojhdidjnaaaGreatDoor

namespace Go.Proofs.YtieeojhdidjnaaaGreatDoor
open Go.RowKit

end Go.Proofs.YtieeojhdidjnaaaGreatDoor

namespace Go.Proofs.YtieeojhdidjnaaaGreatDoor
open Go.RowKit

end Go.Proofs.YtieeojhdidjnaaaGreatDoor

namespace Go.Proofs.YtieeojhdidjnaaaGreatDoor
open Go.RowKit

end Go.Proofs.YtieeojhdidjnaaaGreatDoor

namespace Go.Proofs.YtieeojhdidjnaaaGreatDoor
open Go.RowKit

open Classical in
noncomputable def tauM (gd gc J : Nat) (hvs : Nat → Value) (q : Nat) : Nat :=
  if q = gd then 0 else if q = gc then 3 else if (hvs J).ownBlock = some q then 2 else if h : ∃ i, i < J ∧ (hvs i).ownBlock = some q then 4 + Classical.choose h else 1

end Go.Proofs.YtieeojhdidjnaaaGreatDoor

namespace Go.Proofs.YtieeojhdidjnaaaGreatDoor
open Go.RowKit

end Go.Proofs.YtieeojhdidjnaaaGreatDoor

namespace Go.Proofs.YtieeojhdidjnaaaGreatDoor
open Go.RowKit

end Go.Proofs.YtieeojhdidjnaaaGreatDoor
