/- Walks: NewTable, both sides. -/
import Derived.Test.YtbdjppiagjhfmaaWh
namespace Go.Proofs.Ytbdjppiagjhfmaa
open Go.RowKit
set_option linter.unusedVariables false

/-- The code of a new table, and the table beside it. -/
def newCode (l : List Int) : Int := if 240 < l.length then 6 else 0
def newTR (l : List Int) : TB := if 240 < l.length then ⟨[], [], []⟩ else newT l

theorem OT.empty (lo hi : Nat) (w : World) : OT lo hi w (.slice none 0 0) (.slice none 0 0) (.slice none 0 0) ⟨[], [], []⟩ :=
  ⟨OB.none _, OB.none _, OP.none _, In.nil _ _, In.nil _ _, In.nil _ _, Ap.nil_left _, Ap.nil_left _, Ap.nil_left _⟩

theorem OT.mono {lo hi lo' hi' : Nat} {w : World} {s1 s2 s3 : Value} {t : TB} (h : OT lo hi w s1 s2 s3 t) (h1 : lo' ≤ lo) (h2 : hi ≤ hi') : OT lo' hi' w s1 s2 s3 t :=
  ⟨h.o1, h.o2, h.o3, h.i1.mono h1 h2, h.i2.mono h1 h2, h.i3.mono h1 h2, h.a12, h.a13, h.a23⟩

/-- The three slices of a table of one's own, by their lengths. -/
theorem OT.forms {lo hi : Nat} {w : World} {s1 s2 s3 : Value} {t : TB} (h : OT lo hi w s1 s2 s3 t) : ∃ a1 b1 a2 b2 a3 b3, s1 = .slice a1 t.base.length b1 ∧ s2 = .slice a2 t.more.length b2 ∧ s3 = .slice a3 t.pcs.length b3 := by
  obtain ⟨a1, b1, e1, _⟩ := h.o1.len
  obtain ⟨a2, b2, e2, _⟩ := h.o2.len
  obtain ⟨a3, b3, e3, _⟩ := h.o3.len
  exact ⟨a1, b1, a2, b2, a3, b3, e1, e2, e3⟩

set_option maxHeartbeats 400000 in
theorem copyBytes_any (a : Option Addr) (c : Nat) (l : List Int) (w : World) (ha : BAt w a l) (hl : (l.length : Int) ≤ 1048576) :
    Calls Try.prog 39 #[.slice a l.length c] w fun e w' => ∃ g, e = .returned (.slice (some ⟨g, 0, none⟩) l.length l.length) ∧ w.heap.size ≤ g ∧ w'.rowIs g 5 l.length (bv l) ∧ Below w.heap.size w w' := by
  have K := Hid.mk' (joinBytes_nil a none c 0 l w ha (by omega))
  go_enter Try.func39, Try.ntmps39
  go_wp2_with fail
  refine K.out.mono ?_
  rintro e w1 ⟨g, rfl, h1, h2, h3⟩
  have H1 := Hid.mk' h2
  have H2 := Hid.mk' h3
  clear K h2 h3
  go_wp2
  go_ret
  exact ⟨g, rfl, h1, H1.out, H2.out⟩

theorem ob_of_row {w : World} {g n : Nat} {l : List Int} (e : l.length = n) (h : w.rowIs g 5 n (bv l)) : OB w (.slice (some ⟨g, 0, none⟩) n n) l := by
  subst e; exact .inr ⟨g, _, _, _, rfl, Nat.le_refl _, h, Nat.le_refl _, fun _ _ => rfl⟩

end Go.Proofs.Ytbdjppiagjhfmaa
