/- Marks in patches of one's own, whatever they hold. -/
import Derived.Test.YtbdjppiagjhfmaaXpa
import Derived.Test.YtbdjppiagjhfmaaWg
namespace Go.Proofs.Ytbdjppiagjhfmaa
open Go.RowKit
set_option linter.unusedVariables false
set_option linter.unusedSimpArgs false

/-- Patches of one's own at g, whatever they hold, all below hi. -/
def XM (g hi : Nat) (l : List XK) (w : World) : Prop := ∃ (f : Nat → Value) (β : Nat → Nat), w.rowIs g 108 (l.length * 3) f ∧ g < hi ∧ ∀ j, j < l.length → f (j * 3 + 2) = .slice (some ⟨β j, 0, none⟩) (xkK l j).hd.length (xkK l j).hd.length ∧ g < β j ∧ β j < hi ∧ (∃ fb, w.rowIs (β j) 5 (xkK l j).hd.length fb) ∧ ∀ i, i < j → β i < β j

theorem XR.xm {w wr : World} {l : List XK} (h : XR w l l.length wr) : XM w.heap.size wr.heap.size l wr := by
  obtain ⟨f, β, hf, hj⟩ := h.row
  refine ⟨f, β, hf, hf.lt, fun j hl => ?_⟩
  obtain ⟨_, _, h3, h4, h5, h6⟩ := hj j hl
  exact ⟨h3, h4, h5.lt, ⟨_, h5⟩, h6⟩

theorem XM.keep {g hi : Nat} {l : List XK} {w w' : World} (h : XM g hi l w) (hk : ∀ q, g ≤ q → q < hi → w'.heap[q]? = w.heap[q]?) : XM g hi l w' := by
  obtain ⟨f, β, hf, h0, hj⟩ := h
  refine ⟨f, β, hf.of_block (hk _ (Nat.le_refl _) h0), h0, fun j hl => ?_⟩
  obtain ⟨h3, h4, h5, ⟨fb, h6⟩, h7⟩ := hj j hl
  exact ⟨h3, h4, h5, ⟨fb, h6.of_block (hk _ (by omega) h5)⟩, h7⟩

theorem XM.cell {g hi k i : Nat} {l : List XK} {w : World} {v : Value} (h : XM g hi l w) (hi2 : i < 2) : XM g hi l (w.setCell ⟨g, k * 3 + i, none⟩ v) := by
  obtain ⟨f, β, hf, h0, hj⟩ := h
  have K : KeptIn g (g + 1) w (w.setCell ⟨g, k * 3 + i, none⟩ v) := (KeptIn.refl _ _ w).setCell (p := ⟨g, k * 3 + i, none⟩) (Nat.le_refl _) (Nat.lt_succ_self _) _
  refine ⟨_, β, hf.set (k * 3 + i) v, h0, fun j hl => ?_⟩
  obtain ⟨h3, h4, h5, ⟨fb, h6⟩, h7⟩ := hj j hl
  exact ⟨by rw [if_neg (by omega)]; exact h3, h4, h5, ⟨fb, rowK h6 K (.inr (by omega))⟩, h7⟩

theorem XM.held {g hi k : Nat} {l : List XK} {w : World} (h : XM g hi l w) (hk : k < l.length) : ∃ b fb, w.cell? ⟨g, k * 3 + 2, none⟩ = some (.slice (some ⟨b, 0, none⟩) (xkK l k).hd.length (xkK l k).hd.length) ∧ g < b ∧ b < hi ∧ w.rowIs b 5 (xkK l k).hd.length fb ∧ ∀ w' fb', KeptIn b (b + 1) w w' → w'.rowIs b 5 (xkK l k).hd.length fb' → XM g hi l w' := by
  obtain ⟨f, β, hf, h0, hj⟩ := h
  obtain ⟨h3, h4, h5, ⟨fb, h6⟩, h7⟩ := hj k hk
  refine ⟨β k, fb, by rw [hf.cell (by omega), h3], h4, h5, h6, fun w' fb' K hr => ⟨f, β, rowK hf K (.inl (by omega)), h0, fun j hl => ?_⟩⟩
  obtain ⟨e3, e4, e5, ⟨fc, e6⟩, e7⟩ := hj j hl
  refine ⟨e3, e4, e5, ?_, e7⟩
  by_cases c : j = k
  · subst c; exact ⟨fb', hr⟩
  · have : β j ≠ β k := by
      rcases Nat.lt_or_gt_of_ne c with c | c
      · have := h7 j c; omega
      · have := e7 k c; omega
    exact ⟨fc, rowK e6 K (by omega)⟩

set_option maxRecDepth 100000 in
set_option maxHeartbeats 3200000 in
theorem markPatchS_bd (g hi c y : Nat) (l : List XK) (w : World) (h : XM g hi l w) (hl : (l.length : Int) + xsz l ≤ 1048576) (y0 : 0 < y) (y1 : y ≤ 20000000) :
    Calls Try.prog 42 #[.slice (some ⟨g, 0, none⟩) l.length c, .int .i64 (y : Int)] w fun e w' => (∃ z : Nat, e = .returned (.int .i64 (z : Int)) ∧ 0 < z ∧ z ≤ y + 2 * l.length + xsz l) ∧ KeptIn g hi w w' := by
  have HM := Hid.mk' h
  clear h
  go_enter Try.func42, Try.ntmps42
  go_wp2
  go_loopw [1, 5] (fun x i wr => ∃ k z : Nat, k ≤ l.length ∧ i = .int .i64 k ∧ x = .int .i64 (z : Int) ∧ 0 < z ∧ z ≤ y + 2 * k + xsz (l.take k) ∧ XM g hi l wr ∧ KeptIn g hi w wr) (fun _ i _ => l.length - (intOf i).toNat)
  case atStart => exact ⟨0, y, Nat.zero_le _, rfl, rfl, y0, by omega, HM.out, KeptIn.refl _ _ _⟩
  case round =>
    obtain ⟨k, z, hk, rfl, rfl, z0, z1, hnm, hkp⟩ := hrel
    by_cases hlt : k < l.length
    · have ci : (k : Int) < (l.length : Int) := by omega
      have st := xsz_take l k hlt
      have sl := xsz_le l (k + 1)
      obtain ⟨f, β, hf, hgh, -⟩ := id hnm
      have hn1 : XM g hi l ((wr.setCell ⟨g, k * 3, none⟩ (.int .i64 (z : Int))).setCell ⟨g, k * 3 + 1, none⟩ (.int .i64 ((z : Int) + 1))) := (hnm.cell (i := 0) (by omega)).cell (i := 1) (by omega)
      have hk1 : KeptIn g hi w ((wr.setCell ⟨g, k * 3, none⟩ (.int .i64 (z : Int))).setCell ⟨g, k * 3 + 1, none⟩ (.int .i64 ((z : Int) + 1))) := (hkp.setCell (p := ⟨g, k * 3, none⟩) (Nat.le_refl _) hgh _).setCell (p := ⟨g, k * 3 + 1, none⟩) (Nat.le_refl _) hgh _
      have f0 := hf.frozen (k * 3)
      have f1 := hf.frozen (k * 3 + 1)
      obtain ⟨v0, g0⟩ : ∃ v, wr.cell? ⟨g, k * 3, none⟩ = some v := ⟨_, hf.cell (by omega)⟩
      obtain ⟨v1, g1⟩ : ∃ v, wr.cell? ⟨g, k * 3 + 1, none⟩ = some v := ⟨_, hf.cell (by omega)⟩
      obtain ⟨b, fb, a1, a3, a5, a7, a9⟩ := hn1.held hlt
      have KA := Hid.mk' (markByteS_row b (xkK l k).hd.length (xkK l k).hd.length (xkK l k).hd.length (z + 1 + 1) fb _ a7 (Nat.le_refl _) (by omega))
      have HA := Hid.mk' a9
      have HK := Hid.mk' hk1
      have hw1 : IntKind.i64.wrap ((z : Int) + 1) = (z : Int) + 1 := by rw [IntKind.wrap_i64]; omega
      have hw2 : IntKind.i64.wrap ((z : Int) + 1 + 1) = (z : Int) + 1 + 1 := by rw [IntKind.wrap_i64]; omega
      clear hn1 hk1 hnm hkp hf a7 a9
      generalize hV2 : (wr.setCell ⟨g, k * 3, none⟩ (.int .i64 (z : Int))).setCell ⟨g, k * 3 + 1, none⟩ (.int .i64 ((z : Int) + 1)) = V2 at *
      go_wp2_with fail
      clear hV2
      refine KA.out.mono ?_
      rintro e w2 ⟨rfl, hmr, hkk⟩
      have HN := Hid.mk' (HA.out w2 _ hkk hmr)
      have HK2 := Hid.mk' (HK.out.trans (hkk.mono (by omega) (by omega)))
      clear hmr hkk KA HA HK
      go_wp2
      go_roundw
      case rel => exact ⟨k + 1, z + 1 + 1 + (xkK l k).hd.length, by omega, by go_num, by congr 1, by omega, by omega, HN.out, HK2.out⟩
      case measure => simp [intOf]; omega
    · have ci : ¬ (k : Int) < (l.length : Int) := by omega
      have e : k = l.length := by omega
      subst e
      rw [List.take_length] at z1
      have HK := Hid.mk' hkp
      clear hkp hnm
      go_wp2
      go_ret
      exact ⟨⟨z, rfl, z0, z1⟩, HK.out⟩

end Go.Proofs.Ytbdjppiagjhfmaa
