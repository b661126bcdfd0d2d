/- The walk of the law on NewTable. -/
import Derived.Test.YtahkneghmgmnbaaWi
namespace Go.Proofs.Ytahkneghmgmnbaa
open Go.RowKit
set_option linter.unusedVariables false

/-- The model's answer, kept: since it was made nothing old has turned; it lies in its box, and reads as the table. -/
structure Want (wa : World) (q : Nat) (c s1 s2 s3 : Value) (t : TB) (wi : World) : Prop where
  old : Below wa.heap.size wa wi
  box : wi.rowIs q 30 4 (r4 c s1 s2 s3)
  tab : TAt wi (.agg #[s1, s2, s3]) t
  qlt : q < wa.heap.size

theorem Want.below {wa wi wj : World} {q : Nat} {c s1 s2 s3 : Value} {t : TB} (h : Want wa q c s1 s2 s3 t wi) (hb : Below wi.heap.size wi wj) : Want wa q c s1 s2 s3 t wj :=
  ⟨h.old.trans (hb.mono h.old.size), rowB h.box hb, h.tab.below hb, h.qlt⟩

theorem TAt.below' {B : Nat} {w w' : World} {v : Value} {t : TB} (h : TAt w v t) (hb : Below B w w') (hB : B = w.heap.size) : TAt w' v t := by subst hB; exact h.below hb

/-- A world in which only memory that is younger than the model's answer has turned. -/
theorem Want.kept {wa wi wj : World} {q lo hi : Nat} {c s1 s2 s3 : Value} {t : TB} (h : Want wa q c s1 s2 s3 t wi) (h0 : Want wa q c s1 s2 s3 t wa) (hk : KeptIn lo hi wi wj) (hlo : wa.heap.size ≤ lo) : Want wa q c s1 s2 s3 t wj := by
  have hb := hk.below hlo h.old.size
  have ho := h.old.trans hb
  exact ⟨ho, rowK h.box hk (.inl (Nat.lt_of_lt_of_le h.qlt hlo)), h0.tab.below ho, h.qlt⟩

/-- The program's answer, kept: in its box, in rows of its own. -/
structure Got (lo hi q : Nat) (c u1 u2 u3 : Value) (t : TB) (wi : World) : Prop where
  box : wi.rowIs q 30 4 (r4 c u1 u2 u3)
  own : OT lo hi wi u1 u2 u3 t
  hiq : hi ≤ q

theorem Got.below {lo hi q : Nat} {c u1 u2 u3 : Value} {t : TB} {wi wj : World} (h : Got lo hi q c u1 u2 u3 t wi) (hb : Below wi.heap.size wi wj) : Got lo hi q c u1 u2 u3 t wj :=
  ⟨rowB h.box hb, h.own.below hb, h.hiq⟩

theorem Got.kept {lo hi q a b : Nat} {c u1 u2 u3 : Value} {t : TB} {wi wj : World} (h : Got lo hi q c u1 u2 u3 t wi) (hk : KeptIn a b wi wj) (hb : b ≤ lo) (hlh : lo ≤ hi) : Got lo hi q c u1 u2 u3 t wj :=
  ⟨rowK h.box hk (.inr (by have := h.hiq; omega)), h.own.kept hk (.inr hb), h.hiq⟩

theorem newTR_len (l : List Int) (hl : (l.length : Int) ≤ 1048576) : ((newTR l).base.length : Int) + (newTR l).more.length + (newTR l).pcs.length ≤ 1048576 ∧ (cnt (newTR l) : Int) ≤ 10000000 := by
  unfold newTR cnt
  split
  · simp
  · unfold newT newPcs
    split <;> simp <;> omega

theorem mb1 (n : Nat) : (((1 : Nat) : Int) + (n : Int)) = 1 + (n : Int) := by omega

end Go.Proofs.Ytahkneghmgmnbaa
