/- What the laws hold on to from call to call. -/
import Derived.Test.YtbdjppiagjhfmaaWk
import Derived.Test.YtbdjppiagjhfmaaLnt
import Derived.Test.YtbdjppiagjhfmaaLsz
namespace Go.Proofs.Ytbdjppiagjhfmaa
open Go.RowKit
set_option linter.unusedVariables false

/-- A table in three rows, as memory of one's own. -/
theorem TRow.own {B : Nat} {w : World} {t : TB} {b1 b2 b3 : Nat} (hp : t.pcs.length ≤ maxLen) (g1 : B ≤ b1) (g2 : b1 < b2) (g3 : b2 < b3) (h1 : w.rowIs b1 5 t.base.length (bv t.base)) (h2 : w.rowIs b2 5 t.more.length (bv t.more)) (h3 : w.rowIs b3 116 (t.pcs.length * 3) (pv t.pcs)) :
    OT B w.heap.size w (.slice (some ⟨b1, 0, none⟩) t.base.length t.base.length) (.slice (some ⟨b2, 0, none⟩) t.more.length t.more.length) (.slice (some ⟨b3, 0, none⟩) t.pcs.length t.pcs.length) t :=
  ⟨ob_of_row rfl h1, ob_of_row rfl h2, .inr ⟨b3, _, _, _, rfl, Nat.le_refl _, h3, ⟨rfl, hp⟩, fun _ _ => rfl⟩,
    In.at g1 h1.lt, In.at (by omega) h2.lt, In.at (by omega) h3.lt,
    fun k e e' => by simp [Value.ownBlock] at e e'; omega, fun k e e' => by simp [Value.ownBlock] at e e'; omega, fun k e e' => by simp [Value.ownBlock] at e e'; omega⟩

/-- The argument, kept while memory of one's own is written. -/
theorem Hold.kept {w wi wj : World} {ty : TypeId} {x y z : Value} {t : TB} {lo hi : Nat} (h : Hold w ty x y z t wi) (h0 : TAt w (.agg #[x, y, z]) t) (hk : KeptIn lo hi wi wj) (hlo : w.heap.size < lo) : Hold w ty x y z t wj := by
  have hb := h.1.trans (hk.below (B := w.heap.size) (by omega) h.1.size)
  exact ⟨hb, rowK h.2.1 hk (.inl hlo), h0.below hb⟩

/-- The model's answer of bytes, kept. -/
structure WantB (wa : World) (q : Nat) (c s : Value) (l : List Int) (wi : World) : Prop where
  old : Below wa.heap.size wa wi
  box : wi.rowIs q 39 2 (p2 c s)
  own : OB wi s l
  qlt : q < wa.heap.size
  ilt : In 0 wa.heap.size s

theorem WantB.below {wa wi wj : World} {q : Nat} {c s : Value} {l : List Int} (h : WantB wa q c s l wi) (hb : Below wi.heap.size wi wj) : WantB wa q c s l wj :=
  ⟨h.old.trans (hb.mono h.old.size), rowB h.box hb, h.own.below hb, h.qlt, h.ilt⟩

theorem WantB.kept {wa wi wj : World} {q lo hi : Nat} {c s : Value} {l : List Int} (h : WantB wa q c s l wi) (hk : KeptIn lo hi wi wj) (hlo : wa.heap.size ≤ lo) : WantB wa q c s l wj :=
  ⟨h.old.trans (hk.below hlo h.old.size), rowK h.box hk (.inl (Nat.lt_of_lt_of_le h.qlt hlo)), h.own.kept h.ilt hk (.inl hlo), h.qlt, h.ilt⟩

/-- The program's answer of bytes, kept. -/
structure GotB (lo hi q : Nat) (c u : Value) (l : List Int) (wi : World) : Prop where
  box : wi.rowIs q 39 2 (p2 c u)
  own : OB wi u l
  inn : In lo hi u
  hiq : hi ≤ q

theorem GotB.below {lo hi q : Nat} {c u : Value} {l : List Int} {wi wj : World} (h : GotB lo hi q c u l wi) (hb : Below wi.heap.size wi wj) : GotB lo hi q c u l wj := ⟨rowB h.box hb, h.own.below hb, h.inn, h.hiq⟩
theorem GotB.kept {lo hi q a b : Nat} {c u : Value} {l : List Int} {wi wj : World} (h : GotB lo hi q c u l wi) (hk : KeptIn a b wi wj) (hb : b ≤ lo) (hlh : lo ≤ hi) : GotB lo hi q c u l wj :=
  ⟨rowK h.box hk (.inr (by have := h.hiq; omega)), h.own.kept h.inn hk (.inr hb), h.inn, h.hiq⟩

/-- A table of the law's own, in its box, kept. -/
structure GotT (lo hi q : Nat) (u1 u2 u3 : Value) (t : TB) (wi : World) : Prop where
  box : wi.rowIs q 64 3 (r3 u1 u2 u3)
  own : OT lo hi wi u1 u2 u3 t
  hiq : hi ≤ q

theorem GotT.below {lo hi q : Nat} {u1 u2 u3 : Value} {t : TB} {wi wj : World} (h : GotT lo hi q u1 u2 u3 t wi) (hb : Below wi.heap.size wi wj) : GotT lo hi q u1 u2 u3 t wj := ⟨rowB h.box hb, h.own.below hb, h.hiq⟩

theorem cnt_le {t : TB} (hl : (t.base.length : Int) + t.more.length + t.pcs.length ≤ 1048576) : (cnt t : Int) ≤ 10000000 := by unfold cnt; omega
theorem textVal_le (t : TB) : ((textVal t).length : Int) ≤ 1048576 := by
  unfold textVal
  split
  · rename_i h
    have := (text_len h).2
    omega
  · simp

end Go.Proofs.Ytbdjppiagjhfmaa
