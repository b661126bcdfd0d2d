/- Ways: the places that a place is in, the outermost first. -/
import Derived.WalkKit
import Derived.Test.YtkiinnmindmnbaaGreatDoorB2
import Derived.Test.YtkiinnmindmnbaaGreatDoorB14
import Derived.Test.YtkiinnmindmnbaaGreatDoorB18
import Derived.Test.YtkiinnmindmnbaaGreatDoorB19
import Derived.Test.YtkiinnmindmnbaaGreatDoorB27
import Derived.Test.YtkiinnmindmnbaaGreatDoorB33
import Derived.Test.YtkiinnmindmnbaaGreatDoorB8
set_option linter.unusedVariables false
set_option linter.unusedSimpArgs false
namespace Go.Proofs.YtkiinnmindmnbaaGreatDoor

end Go.Proofs.YtkiinnmindmnbaaGreatDoor

namespace Go.Proofs.YtkiinnmindmnbaaGreatDoor
open Go.RowKit

end Go.Proofs.YtkiinnmindmnbaaGreatDoor

namespace Go.Proofs.YtkiinnmindmnbaaGreatDoor
open Go.RowKit

end Go.Proofs.YtkiinnmindmnbaaGreatDoor

namespace Go.Proofs.YtkiinnmindmnbaaGreatDoor
open Go.RowKit

def AOh (hi g : Nat) (l : List AT) (w : World) : Prop := ∃ f, w.rowIs g 120 (l.length * 2) f ∧ g < hi ∧ ∀ j, j < l.length → f (j * 2) = .string (atK l j).nm ∧ ∃ b, f (j * 2 + 1) = .slice (some ⟨b, 0, none⟩) (atK l j).vl.length (atK l j).vl.length ∧ g < b ∧ b < hi ∧ w.rowIs b 5 (atK l j).vl.length (bv (atK l j).vl)

theorem AOh.ao {hi g : Nat} {l : List AT} {w : World} (h : AOh hi g l w) : AO g l w := by
  obtain ⟨f, hf, _, hj⟩ := h
  refine ⟨f, hf, fun j hl => ?_⟩
  obtain ⟨h1, b, h2, h3, _, h4⟩ := hj j hl
  exact ⟨h1, b, h2, h3, h4⟩

theorem AO.h {hi g : Nat} {l : List AT} {w : World} (h : AO g l w) (hh : w.heap.size ≤ hi) : AOh hi g l w := by
  obtain ⟨f, hf, hj⟩ := h
  refine ⟨f, hf, Nat.lt_of_lt_of_le hf.lt hh, fun j hl => ?_⟩
  obtain ⟨h1, b, h2, h3, h4⟩ := hj j hl
  exact ⟨h1, b, h2, h3, Nat.lt_of_lt_of_le h4.lt hh, h4⟩

theorem AOh.keep {hi g : Nat} {l : List AT} {w w' : World} (h : AOh hi g l w) (hk : ∀ k, g ≤ k → k < hi → k < w.heap.size → w'.heap[k]? = w.heap[k]?) : AOh hi g l w' := by
  obtain ⟨f, hf, hg, hj⟩ := h
  refine ⟨f, hf.of_block (hk g (Nat.le_refl _) hg hf.lt), hg, fun j hl => ?_⟩
  obtain ⟨h1, b, h2, h3, h4, h5⟩ := hj j hl
  exact ⟨h1, b, h2, h3, h4, h5.of_block (hk b (by omega) h4 h5.lt)⟩

theorem AOh.below {hi g : Nat} {l : List AT} {w w' : World} (h : AOh hi g l w) (hb : Below w.heap.size w w') : AOh hi g l w' := h.keep fun k _ _ hl => hb.block k hl

theorem AOh.kept {hi g lo' hi' : Nat} {l : List AT} {w w' : World} (h : AOh hi g l w) (hk : KeptIn lo' hi' w w') (hd : hi ≤ lo' ∨ hi' ≤ g) : AOh hi g l w' := h.keep fun k h1 h2 hl => hk.block k hl (by omega)

end Go.Proofs.YtkiinnmindmnbaaGreatDoor

namespace Go.Proofs.YtkiinnmindmnbaaGreatDoor
open Go.RowKit

set_option maxHeartbeats 3200000 in
theorem markAttrS_gen (g hi c z : Nat) (l : List AT) (w : World) (h : MR g hi l w) (hhi : hi ≤ w.heap.size) (hl : (l.length : Int) + asz l ≤ 1048576) (z0 : 0 < z) (z1 : z ≤ 10000000) :
    Calls Tryz.prog 74 #[.slice (some ⟨g, 0, none⟩) l.length c, .int .i64 (z : Int)] w fun e w' => e = .returned (.int .i64 ((z : Int) + (l.length : Int) + (vsz l : Int))) ∧ MR g hi l w' ∧ KeptIn g hi w w' := by
  have HM := Hid.mk' h
  clear h
  go_enter Tryz.func74, Tryz.ntmps74
  go_wp2
  go_loopw [1, 5] (fun x i wr => ∃ k : Nat, k ≤ l.length ∧ i = .int .i64 k ∧ x = .int .i64 ((z + k + vsz (l.take k) : Nat) : Int) ∧ MR g hi l wr ∧ KeptIn g hi w wr) (fun _ i _ => l.length - (intOf i).toNat)
  case atStart => exact ⟨0, Nat.zero_le _, rfl, by simp [vsz], HM.out, KeptIn.refl _ _ _⟩
  case round =>
    obtain ⟨k, hk, rfl, rfl, hmr, hkp⟩ := hrel
    have HR := Hid.mk' hmr
    have HK := Hid.mk' hkp
    clear hmr hkp
    by_cases hlt : k < l.length
    · have ci : (k : Int) < (l.length : Int) := by omega
      have st := vsz_take l k hlt
      have sl := vsz_le l (k + 1)
      obtain ⟨q, hq⟩ : ∃ q : Nat, z + k + vsz (l.take k) = q := ⟨_, rfl⟩
      have hq1 : z + (k + 1) + vsz (l.take (k + 1)) = q + 1 + (atK l k).vl.length := by omega
      have hq2 : q + 1 + (atK l k).vl.length ≤ 100000000 := by omega
      have Q1 := Hid.mk' hq1
      have KT := Hid.mk' (markText_any q wr (by omega) (by omega))
      rw [hq]
      clear st sl hq hq1
      go_wp2_with fail
      refine KT.out.mono ?_
      rintro e w1 ⟨s, rfl, hb⟩
      have hm1 := HR.out.below hb
      have HK1 := Hid.mk' (HK.out.trans (KeptIn.of_below hb))
      obtain ⟨f, hf, _, _⟩ := id hm1
      have f0 := hf.frozen (k * 2)
      obtain ⟨v0, g0⟩ : ∃ v, w1.cell? ⟨g, k * 2, none⟩ = some v := ⟨_, hf.cell (by omega)⟩
      have hm2 := hm1.name hlt s
      obtain ⟨f2, hf2, hgh, hj2⟩ := id hm2
      obtain ⟨_, b, h2, h3, h4, fb, h5⟩ := hj2 k hlt
      have c2 : (w1.setCell ⟨g, k * 2, none⟩ (.string s)).cell? ⟨g, k * 2 + 1, none⟩ = some (.slice (some ⟨b, 0, none⟩) (atK l k).vl.length (atK l k).vl.length) := by
        have := hf2.cell (show k * 2 + 1 < l.length * 2 by omega)
        rw [this, h2]
      have KB := Hid.mk' (markByteS_row b (atK l k).vl.length (atK l k).vl.length (atK l k).vl.length (q + 1) fb _ h5 (Nat.le_refl _) (by omega))
      have HK2 := Hid.mk' (HK1.out.setCell (p := ⟨g, k * 2, none⟩) (Nat.le_refl _) hgh (.string s))
      have M2 := Hid.mk' hm2
      have H5 := Hid.mk' h5
      clear hm1 hm2 hf hf2 hj2 h5 hb KT HR HK HK1
      generalize hV : w1.setCell ⟨g, k * 2, none⟩ (.string s) = V at *
      go_wp2_with fail
      clear hV
      refine KB.out.mono ?_
      rintro e w2 ⟨rfl, hr, hkk⟩
      have M3 := Hid.mk' (M2.out.value h3 h4 hr H5.out hkk)
      have HK3 := Hid.mk' (HK2.out.trans (hkk.mono (by omega) (by omega)))
      clear hr hkk KB M2 H5 HK2
      go_wp2
      go_roundw
      case rel => exact ⟨k + 1, by omega, by go_num, by rw [Q1.out]; simp, M3.out, HK3.out⟩
      case measure => simp [intOf]; omega
    · have ci : ¬ (k : Int) < (l.length : Int) := by omega
      have e : k = l.length := by omega
      subst e
      go_wp2
      go_ret
      exact ⟨by simp, HR.out, HK.out⟩

theorem MR.keep {hi g : Nat} {l : List AT} {w w' : World} (h : MR g hi l w) (hk : ∀ k, g ≤ k → k < hi → k < w.heap.size → w'.heap[k]? = w.heap[k]?) : MR g hi l w' := by
  obtain ⟨f, hf, hg, hj⟩ := h
  refine ⟨f, hf.of_block (hk g (Nat.le_refl _) hg hf.lt), hg, fun j hl => ?_⟩
  obtain ⟨h1, b, h2, h3, h4, fb, h5⟩ := hj j hl
  exact ⟨h1, b, h2, h3, h4, fb, h5.of_block (hk b (by omega) h4 h5.lt)⟩

theorem AOh.mr {hi g : Nat} {l : List AT} {w : World} (h : AOh hi g l w) : MR g hi l w := by
  obtain ⟨f, hf, hg, hj⟩ := h
  refine ⟨f, hf, hg, fun j hl => ?_⟩
  obtain ⟨h1, b, h2, h3, h4, h5⟩ := hj j hl
  exact ⟨⟨_, h1⟩, b, h2, h3, h4, _, h5⟩

theorem mono_s2 {s : Nat → Nat} {n : Nat} (h : ∀ j, j < n → s j ≤ s (j + 1)) {i : Nat} : ∀ j, i ≤ j → j ≤ n → s i ≤ s j
  | 0, hi, _ => by have : i = 0 := by omega
                   subst this; exact Nat.le_refl _
  | j + 1, hi, hj => by
    by_cases e : i = j + 1
    · subst e; exact Nat.le_refl _
    · exact Nat.le_trans (mono_s2 h j (by omega) (by omega)) (h j (by omega))

theorem vsz_asz (l : List AT) : vsz l ≤ asz l := by have := vsz_le l l.length; rwa [List.take_length] at this

end Go.Proofs.YtkiinnmindmnbaaGreatDoor

namespace Go.Proofs.YtkiinnmindmnbaaGreatDoor
open Go.RowKit

def TO (lo hi : Nat) (t : TK) (f : Nat → Value) (j : Nat) (w : World) : Prop :=
  f (j * 5) = .int .i64 t.kd ∧ f (j * 5 + 1) = .int .i64 t.by_ ∧ f (j * 5 + 2) = .string t.nm ∧ (∃ g, f (j * 5 + 3) = .slice (some ⟨g, 0, none⟩) t.at_.length t.at_.length ∧ lo ≤ g ∧ AOh hi g t.at_ w) ∧ f (j * 5 + 4) = .bool t.sh

structure TW (w : World) (l : List TK) (k : Nat) (wr : World) : Prop where
  bl : Below w.heap.size w wr
  row : ∃ (f : Nat → Value) (s : Nat → Nat), wr.rowIs w.heap.size 101 (l.length * 5) f ∧ w.heap.size < s 0 ∧ s k ≤ wr.heap.size ∧ (∀ j, j < k → s j ≤ s (j + 1)) ∧ ∀ j, j < k → TO (s j) (s (j + 1)) (tkK l j) f j wr

theorem TW.start (w : World) (l : List TK) : TW w l 0 (w.alloc (.cells (madeCells #[.int .i64 0, .int .i64 0, .string ⟨#[]⟩, .slice none 0 0, .bool false] (l.length * 5)) 101)) := by
  have h := TR.start w l
  obtain ⟨f, hf, _⟩ := h.row
  exact ⟨h.bl, f, fun _ => w.heap.size + 1, hf, Nat.lt_succ_self _, by simp, fun j hj => absurd hj (Nat.not_lt_zero _), fun j hj => absurd hj (Nat.not_lt_zero _)⟩

theorem TW.step {w wr w1 : World} {l : List TK} {k g : Nat} (h : TW w l k wr) (hb1 : Below wr.heap.size wr w1) (hg : wr.heap.size ≤ g) (hao : AO g (tkK l k).at_ w1) :
    TW w l (k + 1) (((((w1.setCell ⟨w.heap.size, k * 5, none⟩ (.int .i64 (tkK l k).kd)).setCell ⟨w.heap.size, k * 5 + 1, none⟩ (.int .i64 (tkK l k).by_)).setCell ⟨w.heap.size, k * 5 + 2, none⟩ (.string (tkK l k).nm)).setCell ⟨w.heap.size, k * 5 + 3, none⟩ (.slice (some ⟨g, 0, none⟩) (tkK l k).at_.length (tkK l k).at_.length)).setCell ⟨w.heap.size, k * 5 + 4, none⟩ (.bool (tkK l k).sh)) := by
  obtain ⟨f, s, hf, h0, h1, h2, hj⟩ := h.row
  have K := (((((KeptIn.refl w.heap.size (w.heap.size + 1) w1).setCell (p := ⟨w.heap.size, k * 5, none⟩) (Nat.le_refl _) (Nat.lt_succ_self _) (.int .i64 (tkK l k).kd)).setCell (p := ⟨w.heap.size, k * 5 + 1, none⟩) (Nat.le_refl _) (Nat.lt_succ_self _) (.int .i64 (tkK l k).by_)).setCell (p := ⟨w.heap.size, k * 5 + 2, none⟩) (Nat.le_refl _) (Nat.lt_succ_self _) (.string (tkK l k).nm)).setCell (p := ⟨w.heap.size, k * 5 + 3, none⟩) (Nat.le_refl _) (Nat.lt_succ_self _) (.slice (some ⟨g, 0, none⟩) (tkK l k).at_.length (tkK l k).at_.length)).setCell (p := ⟨w.heap.size, k * 5 + 4, none⟩) (Nat.le_refl _) (Nat.lt_succ_self _) (.bool (tkK l k).sh)
  have hf1 := rowB hf hb1
  have hsz := hb1.size
  have hwl : w.heap.size < wr.heap.size := hf.lt
  have mono := fun j (hj' : j ≤ k) => mono_s2 (n := k) h2 (i := 0) j (Nat.zero_le _) hj'
  have monk := fun j (hj' : j ≤ k) => mono_s2 (n := k) h2 (i := j) k hj' (Nat.le_refl _)
  refine ⟨(h.bl.trans (hb1.mono h.bl.size)).trans (K.below (Nat.le_refl _) (Nat.le_trans h.bl.size hsz)), _, fun i => if i ≤ k then s i else w1.heap.size, ((((hf1.set (k * 5) _).set (k * 5 + 1) _).set (k * 5 + 2) _).set (k * 5 + 3) _).set (k * 5 + 4) _, ?_, ?_, fun j hj' => ?_, fun j hj' => ?_⟩
  · dsimp only; rw [if_pos (Nat.zero_le _)]; exact h0
  · dsimp only; rw [if_neg (by omega)]; exact K.size
  · dsimp only
    by_cases e : j = k
    · subst e; rw [if_pos (Nat.le_refl _), if_neg (by omega)]; omega
    · rw [if_pos (by omega), if_pos (by omega)]; exact h2 j (by omega)
  · by_cases e : j = k
    · subst e
      dsimp only
      rw [if_pos (Nat.le_refl _), if_neg (by omega)]
      refine ⟨?_, ?_, ?_, ⟨g, ?_, by omega, (hao.h (Nat.le_refl _)).kept K (.inr (by omega))⟩, ?_⟩
      · dsimp only; rw [if_neg (by omega), if_neg (by omega), if_neg (by omega), if_neg (by omega), if_pos rfl]
      · dsimp only; rw [if_neg (by omega), if_neg (by omega), if_neg (by omega), if_pos rfl]
      · dsimp only; rw [if_neg (by omega), if_neg (by omega), if_pos rfl]
      · dsimp only; rw [if_neg (by omega), if_pos rfl]
      · dsimp only; rw [if_pos rfl]
    · dsimp only
      rw [if_pos (by omega), if_pos (by omega)]
      have m1 := mono j (by omega)
      obtain ⟨e1, e2, e3, ⟨g', e4, e5, e6⟩, e7⟩ := hj j (by omega)
      refine ⟨?_, ?_, ?_, ⟨g', ?_, e5, (e6.below hb1).kept K (.inr (by omega))⟩, ?_⟩
      · dsimp only; rw [if_neg (by omega), if_neg (by omega), if_neg (by omega), if_neg (by omega), if_neg (by omega)]; exact e1
      · dsimp only; rw [if_neg (by omega), if_neg (by omega), if_neg (by omega), if_neg (by omega), if_neg (by omega)]; exact e2
      · dsimp only; rw [if_neg (by omega), if_neg (by omega), if_neg (by omega), if_neg (by omega), if_neg (by omega)]; exact e3
      · dsimp only; rw [if_neg (by omega), if_neg (by omega), if_neg (by omega), if_neg (by omega), if_neg (by omega)]; exact e4
      · dsimp only; rw [if_neg (by omega), if_neg (by omega), if_neg (by omega), if_neg (by omega), if_neg (by omega)]; exact e7

theorem TW.tr {w wr : World} {l : List TK} {k : Nat} (h : TW w l k wr) : TR w l k wr := by
  obtain ⟨f, s, hf, h0, h1, h2, hj⟩ := h.row
  refine ⟨h.bl, f, hf, fun j hk => ?_⟩
  have m1 := mono_s2 (n := k) h2 (i := 0) j (Nat.zero_le _) (by omega)
  obtain ⟨e1, e2, e3, ⟨g', e4, e5, e6⟩, e7⟩ := hj j hk
  exact ⟨e1, e2, e3, ⟨g', e4, by omega, e6.ao⟩, e7⟩

set_option maxHeartbeats 1600000 in
theorem toTokenW (a : Option Addr) (c : Nat) (l : List TK) (w : World) (ha : TsAt w a l) (hl : (l.length : Int) + tssz l ≤ 1048576) :
    Calls Tryz.prog 42 #[.slice a l.length c] w fun e w' => e = .returned (.slice (some ⟨w.heap.size, 0, none⟩) l.length l.length) ∧ TW w l l.length w' := by
  have hmk := make_tokens (P := Tryz.prog) 23 101 Tryz.underlying23 Tryz.info101 l.length (by omega)
  have HA := Hid.mk' ha
  clear ha
  go_enter Tryz.func42, Tryz.ntmps42
  go_wp2
  go_loopw [4] (fun i wr => ∃ k : Nat, k ≤ l.length ∧ i = .int .i64 k ∧ TW w l k wr) (fun i _ => l.length - (intOf i).toNat)
  case atStart => exact ⟨0, Nat.zero_le _, rfl, TW.start w l⟩
  case round =>
    obtain ⟨k, hk, rfl, hr⟩ := hrel
    have HR := Hid.mk' hr
    clear hr hmk
    by_cases hlt : k < l.length
    · have ci : (k : Int) < (l.length : Int) := by omega
      rcases HA.out with ha | ⟨b, o, rfl, hbs, hc⟩
      · exact absurd hlt (by rw [ha]; exact Nat.not_lt_zero _)
      obtain ⟨q1, q2, q3, ⟨p, d, q4, q5⟩, q6⟩ := hc k hlt
      have h1 := (HR.out.bl.cell hbs).trans q1
      have h2 := (HR.out.bl.cell hbs).trans q2
      have h3 := (HR.out.bl.cell hbs).trans q3
      have h4 := (HR.out.bl.cell hbs).trans q4
      have h6 := (HR.out.bl.cell hbs).trans q6
      have st := tssz_take l k hlt
      have sl := tssz_le l (k + 1)
      unfold tsz at st
      have KA := Hid.mk' (toToken_any (tkK l k) p d wr (q5.below HR.out.bl) (by omega))
      clear q1 q2 q3 q4 q5 q6 hc st sl
      go_wp2_with fail
      refine KA.out.mono ?_
      rintro e w1 ⟨g, rfl, hg, hao, hbl⟩
      obtain ⟨f00, s00, hf00, _⟩ := HR.out.row
      have hf := rowB hf00 hbl
      have f0 := hf.frozen (k * 5)
      have f1 := hf.frozen (k * 5 + 1)
      have f2 := hf.frozen (k * 5 + 2)
      have f3 := hf.frozen (k * 5 + 3)
      have f4 := hf.frozen (k * 5 + 4)
      obtain ⟨v0, g0⟩ : ∃ v, w1.cell? ⟨w.heap.size, k * 5, none⟩ = some v := ⟨_, hf.cell (by omega)⟩
      obtain ⟨v1, g1⟩ : ∃ v, w1.cell? ⟨w.heap.size, k * 5 + 1, none⟩ = some v := ⟨_, hf.cell (by omega)⟩
      obtain ⟨v2, g2⟩ : ∃ v, w1.cell? ⟨w.heap.size, k * 5 + 2, none⟩ = some v := ⟨_, hf.cell (by omega)⟩
      obtain ⟨v3, g3⟩ : ∃ v, w1.cell? ⟨w.heap.size, k * 5 + 3, none⟩ = some v := ⟨_, hf.cell (by omega)⟩
      obtain ⟨v4, g4⟩ : ∃ v, w1.cell? ⟨w.heap.size, k * 5 + 4, none⟩ = some v := ⟨_, hf.cell (by omega)⟩
      have R1 := Hid.mk' (HR.out.step hbl hg hao)
      clear hf hf00 hao hbl KA h1 h2 h3 h4 h6 hg
      go_wp2
      go_roundw
      case rel => exact ⟨k + 1, by omega, by go_num, R1.out⟩
      case measure => simp [intOf]; omega
    · have ci : ¬ (k : Int) < (l.length : Int) := by omega
      have e : k = l.length := by omega
      subst e
      go_wp2
      go_ret
      exact ⟨rfl, HR.out⟩

def TM (g hi : Nat) (l : List TK) (w : World) : Prop := ∃ (f : Nat → Value) (s : Nat → Nat), w.rowIs g 101 (l.length * 5) f ∧ g < s 0 ∧ s l.length = hi ∧ hi ≤ w.heap.size ∧ (∀ j, j < l.length → s j ≤ s (j + 1)) ∧ ∀ j, j < l.length → ∃ ga, f (j * 5 + 3) = .slice (some ⟨ga, 0, none⟩) (tkK l j).at_.length (tkK l j).at_.length ∧ s j ≤ ga ∧ MR ga (s (j + 1)) (tkK l j).at_ w

theorem TW.tm {w wr : World} {l : List TK} (h : TW w l l.length wr) : ∃ hi, w.heap.size < hi ∧ hi ≤ wr.heap.size ∧ TM w.heap.size hi l wr := by
  obtain ⟨f, s, hf, h0, h1, h2, hj⟩ := h.row
  refine ⟨s l.length, Nat.lt_of_lt_of_le h0 (mono_s2 h2 (i := 0) _ (Nat.zero_le _) (Nat.le_refl _)), h1, f, s, hf, h0, rfl, h1, h2, fun j hk => ?_⟩
  obtain ⟨_, _, _, ⟨g', e4, e5, e6⟩, _⟩ := hj j hk
  exact ⟨g', e4, e5, e6.mr⟩

theorem TM.lt {g hi : Nat} {l : List TK} {w : World} (h : TM g hi l w) : g < hi ∧ hi ≤ w.heap.size := by
  obtain ⟨f, s, _, h0, h1, h2, h3, _⟩ := h
  have := mono_s2 h3 (i := 0) l.length (Nat.zero_le _) (Nat.le_refl _)
  exact ⟨by omega, h2⟩

theorem TM.keep {g hi : Nat} {l : List TK} {w w' : World} (h : TM g hi l w) (hs : w.heap.size ≤ w'.heap.size) (hk : ∀ k, g ≤ k → k < hi → k < w.heap.size → w'.heap[k]? = w.heap[k]?) : TM g hi l w' := by
  obtain ⟨f, s, hf, h0, h1, h2, h3, hj⟩ := h
  have m0 := mono_s2 h3 (i := 0) l.length (by omega) (Nat.le_refl _)
  refine ⟨f, s, hf.of_block (hk g (Nat.le_refl _) (by omega) hf.lt), h0, h1, Nat.le_trans h2 hs, h3, fun j hl => ?_⟩
  obtain ⟨ga, e, hlo, hm⟩ := hj j hl
  have m1 := mono_s2 h3 (i := 0) j (by omega) (by omega)
  have m2 := mono_s2 h3 (i := j + 1) l.length (by omega) (Nat.le_refl _)
  exact ⟨ga, e, hlo, hm.keep (fun i a c d => hk i (by omega) (by omega) d)⟩

theorem TM.cell {g hi k i : Nat} {l : List TK} {w : World} {v : Value} (h : TM g hi l w) (hk : k < l.length) (hi2 : i < 5) (hv : ¬ i = 3) : TM g hi l (w.setCell ⟨g, k * 5 + i, none⟩ v) := by
  obtain ⟨f, s, hf, h0, h1, h2, h3, hj⟩ := h
  have K : KeptIn g (g + 1) w (w.setCell ⟨g, k * 5 + i, none⟩ v) := (KeptIn.refl _ _ w).setCell (p := ⟨g, k * 5 + i, none⟩) (Nat.le_refl _) (Nat.lt_succ_self _) _
  refine ⟨_, s, hf.set (k * 5 + i) v, h0, h1, by simpa [World.setCell] using h2, h3, fun j hl => ?_⟩
  have m1 := mono_s2 h3 (i := 0) j (by omega) (by omega)
  obtain ⟨ga, e, hlo, hm⟩ := hj j hl
  exact ⟨ga, by rw [if_neg (by omega)]; exact e, hlo, hm.keep (fun q a c d => K.block q d (by omega))⟩

theorem TM.attrs {g hi k : Nat} {l : List TK} {w : World} (h : TM g hi l w) (hk : k < l.length) : ∃ ga b, w.cell? ⟨g, k * 5 + 3, none⟩ = some (.slice (some ⟨ga, 0, none⟩) (tkK l k).at_.length (tkK l k).at_.length) ∧ g < ga ∧ b ≤ hi ∧ MR ga b (tkK l k).at_ w ∧ ∀ w', KeptIn ga b w w' → MR ga b (tkK l k).at_ w' → TM g hi l w' := by
  obtain ⟨f, s, hf, h0, h1, h2, h3, hj⟩ := h
  obtain ⟨ga, e, hlo, hm⟩ := hj k hk
  have m0 := mono_s2 h3 (i := 0) k (by omega) (by omega)
  have m2 := mono_s2 h3 (i := k + 1) l.length (by omega) (Nat.le_refl _)
  refine ⟨ga, s (k + 1), by rw [hf.cell (by omega), e], by omega, by omega, hm, fun w' K hM => ?_⟩
  refine ⟨f, s, rowK hf K (.inl (by omega)), h0, h1, Nat.le_trans h2 K.size, h3, fun j hl => ?_⟩
  by_cases e' : j = k
  · subst e'; exact ⟨ga, e, hlo, hM⟩
  · obtain ⟨gb, e2, hlo2, hm2⟩ := hj j hl
    refine ⟨gb, e2, hlo2, hm2.keep (fun q x y z => K.block q z ?_)⟩
    rcases Nat.lt_or_gt_of_ne e' with hlt' | hgt
    · have := mono_s2 h3 (i := j + 1) k (by omega) (by omega); omega
    · have := mono_s2 h3 (i := k + 1) j (by omega) (by omega); omega

set_option maxRecDepth 100000 in
set_option maxHeartbeats 3200000 in
theorem markTokenS_bd (g hi c y : Nat) (l : List TK) (w : World) (h : TM g hi l w) (hl : (l.length : Int) + tssz l ≤ 1048576) (y0 : 0 < y) (y1 : y ≤ 4000000) :
    Calls Tryz.prog 50 #[.slice (some ⟨g, 0, none⟩) l.length c, .int .i64 (y : Int)] w fun e w' => (∃ z : Nat, e = .returned (.int .i64 (z : Int)) ∧ 0 < z ∧ z ≤ y + 4 * l.length + tssz l) ∧ KeptIn g hi w w' := by
  have HM := Hid.mk' h
  clear h
  go_enter Tryz.func50, Tryz.ntmps50
  go_wp2
  go_loopw [1, 5] (fun x i wr => ∃ k z : Nat, k ≤ l.length ∧ i = .int .i64 k ∧ x = .int .i64 (z : Int) ∧ 0 < z ∧ z ≤ y + 4 * k + tssz (l.take k) ∧ TM g hi l wr ∧ KeptIn g hi w wr) (fun _ i _ => l.length - (intOf i).toNat)
  case atStart => exact ⟨0, y, Nat.zero_le _, rfl, rfl, y0, by omega, HM.out, KeptIn.refl _ _ _⟩
  case round =>
    obtain ⟨k, z, hk, rfl, rfl, z0, z1, hnm, hkp⟩ := hrel
    by_cases hlt : k < l.length
    · have ci : (k : Int) < (l.length : Int) := by omega
      have st := tssz_take l k hlt
      have sl := tssz_le l (k + 1)
      unfold tsz at st
      have vz := vsz_asz (tkK l k).at_
      have gh := hnm.lt
      have hn1 : TM g hi l ((wr.setCell ⟨g, k * 5, none⟩ (.int .i64 (z : Int))).setCell ⟨g, k * 5 + 1, none⟩ (.int .i64 ((z : Int) + 1))) := (hnm.cell (i := 0) hlt (by omega) (by omega)).cell (i := 1) hlt (by omega) (by omega)
      have hk1 : KeptIn g hi w ((wr.setCell ⟨g, k * 5, none⟩ (.int .i64 (z : Int))).setCell ⟨g, k * 5 + 1, none⟩ (.int .i64 ((z : Int) + 1))) := (hkp.setCell (p := ⟨g, k * 5, none⟩) (Nat.le_refl _) gh.1 _).setCell (p := ⟨g, k * 5 + 1, none⟩) (Nat.le_refl _) gh.1 _
      obtain ⟨f, _, hf, _⟩ := id hnm
      have f0 := hf.frozen (k * 5)
      have f1 := hf.frozen (k * 5 + 1)
      obtain ⟨v0, g0⟩ : ∃ v, wr.cell? ⟨g, k * 5, none⟩ = some v := ⟨_, hf.cell (by omega)⟩
      obtain ⟨v1, g1⟩ : ∃ v, wr.cell? ⟨g, k * 5 + 1, none⟩ = some v := ⟨_, hf.cell (by omega)⟩
      have HN := Hid.mk' hn1
      have HK := Hid.mk' hk1
      have KT := Hid.mk' (markText_any (z + 1 + 1) ((wr.setCell ⟨g, k * 5, none⟩ (.int .i64 (z : Int))).setCell ⟨g, k * 5 + 1, none⟩ (.int .i64 ((z : Int) + 1))) (by omega) (by omega))
      clear hn1 hk1 hnm hkp hf
      generalize hV : (wr.setCell ⟨g, k * 5, none⟩ (.int .i64 (z : Int))).setCell ⟨g, k * 5 + 1, none⟩ (.int .i64 ((z : Int) + 1)) = V at *
      go_wp2_with fail
      clear hV
      refine KT.out.mono ?_
      rintro e w1 ⟨sx, rfl, hb⟩
      have hn2 := HN.out.keep hb.size (fun q _ _ hq => hb.block q hq)
      have hn3 : TM g hi l (w1.setCell ⟨g, k * 5 + 2, none⟩ (.string sx)) := hn2.cell (i := 2) hlt (by omega) (by omega)
      have hk3 : KeptIn g hi w (w1.setCell ⟨g, k * 5 + 2, none⟩ (.string sx)) := (HK.out.trans (KeptIn.of_below hb)).setCell (p := ⟨g, k * 5 + 2, none⟩) (Nat.le_refl _) gh.1 _
      obtain ⟨ff, _, hf2, _⟩ := id hn2
      have f2 := hf2.frozen (k * 5 + 2)
      obtain ⟨v2, g2⟩ : ∃ v, w1.cell? ⟨g, k * 5 + 2, none⟩ = some v := ⟨_, hf2.cell (by omega)⟩
      obtain ⟨ga, b, a1, a3, a5, a7, a9⟩ := hn3.attrs hlt
      have gh3 := hn3.lt
      have KA := Hid.mk' (markAttrS_gen ga b (tkK l k).at_.length (z + 1 + 1 + 1) (tkK l k).at_ _ a7 (by omega) (by omega) (by omega) (by omega))
      have HA := Hid.mk' a9
      have HK := Hid.mk' hk3
      clear hn2 hn3 hk3 hb hf2 KT HN a7 a9 gh3
      generalize hV2 : w1.setCell ⟨g, k * 5 + 2, none⟩ (.string sx) = V2 at *
      go_wp2_with fail
      clear hV2
      refine KA.out.mono ?_
      rintro e w2 ⟨rfl, hmr, hkk⟩
      have hn4 := HA.out w2 hkk hmr
      have HK := Hid.mk' (HK.out.trans (hkk.mono (by omega) (by omega)))
      obtain ⟨z2, hz2⟩ : ∃ z2 : Nat, z + 1 + 1 + 1 + (tkK l k).at_.length + vsz (tkK l k).at_ = z2 := ⟨_, rfl⟩
      have ez : ((z + 1 + 1 + 1 : Nat) : Int) + ((tkK l k).at_.length : Int) + (vsz (tkK l k).at_ : Int) = (z2 : Int) := by omega
      rw [ez]
      obtain ⟨f4, _, hf4, _⟩ := id hn4
      have f4' := hf4.frozen (k * 5 + 4)
      obtain ⟨v4, g4⟩ : ∃ v, w2.cell? ⟨g, k * 5 + 4, none⟩ = some v := ⟨_, hf4.cell (by omega)⟩
      have HN5 : Hid (∀ v, TM g hi l (w2.setCell ⟨g, k * 5 + 4, none⟩ v)) := Hid.mk' (fun v => hn4.cell (i := 4) hlt (by omega) (by omega))
      have HK5 : Hid (∀ v, KeptIn g hi w (w2.setCell ⟨g, k * 5 + 4, none⟩ v)) := Hid.mk' (fun v => HK.out.setCell (p := ⟨g, k * 5 + 4, none⟩) (Nat.le_refl _) gh.1 _)
      clear hkk hmr KA HA hn4 hf4 a1 ez
      go_wp2
      go_roundw
      case rel => exact ⟨k + 1, z2 + 1, by omega, by go_num, by simp, by omega, by omega, HN5.out _, HK5.out _⟩
      case measure => simp [intOf]; omega
    · have ci : ¬ (k : Int) < (l.length : Int) := by omega
      have HK := Hid.mk' hkp
      have e9 : k = l.length := by omega
      have zb : z ≤ y + 4 * l.length + tssz l := by rw [e9, List.take_length] at z1; exact z1
      clear hnm hkp
      go_wp2
      go_ret
      exact ⟨⟨z, rfl, z0, zb⟩, HK.out⟩

end Go.Proofs.YtkiinnmindmnbaaGreatDoor

namespace Go.Proofs.YtkiinnmindmnbaaGreatDoor
open Go.RowKit

def CM (g hi : Nat) (l : List CK) (w : World) : Prop := ∃ (f : Nat → Value) (β : Nat → Nat), w.rowIs g 46 (l.length * 3) f ∧ g < hi ∧ ∀ j, j < l.length → f (j * 3 + 2) = .slice (some ⟨β j, 0, none⟩) (ckK l j).hd.length (ckK l j).hd.length ∧ g < β j ∧ β j < hi ∧ (∃ fb, w.rowIs (β j) 5 (ckK l j).hd.length fb) ∧ ∀ i, i < j → β i < β j

theorem CX.cm {g : Nat} {l : List CK} {w : World} (h : CX g l w) : CM g w.heap.size l w := by
  obtain ⟨f, β, hf, hj⟩ := h
  refine ⟨f, β, hf, hf.lt, fun j hl => ?_⟩
  obtain ⟨_, _, h3, h4, h5, h6⟩ := hj j hl
  exact ⟨h3, h4, h5.lt, ⟨_, h5⟩, h6⟩

theorem CM.keep {g hi : Nat} {l : List CK} {w w' : World} (h : CM g hi l w) (hk : ∀ q, g ≤ q → q < hi → w'.heap[q]? = w.heap[q]?) : CM g hi l w' := by
  obtain ⟨f, β, hf, h0, hj⟩ := h
  refine ⟨f, β, hf.of_block (hk _ (Nat.le_refl _) h0), h0, fun j hl => ?_⟩
  obtain ⟨h3, h4, h5, ⟨fb, h6⟩, h7⟩ := hj j hl
  exact ⟨h3, h4, h5, ⟨fb, h6.of_block (hk _ (by omega) h5)⟩, h7⟩

theorem CM.cell {g hi k i : Nat} {l : List CK} {w : World} {v : Value} (h : CM g hi l w) (hi2 : i < 2) : CM g hi l (w.setCell ⟨g, k * 3 + i, none⟩ v) := by
  obtain ⟨f, β, hf, h0, hj⟩ := h
  have K : KeptIn g (g + 1) w (w.setCell ⟨g, k * 3 + i, none⟩ v) := (KeptIn.refl _ _ w).setCell (p := ⟨g, k * 3 + i, none⟩) (Nat.le_refl _) (Nat.lt_succ_self _) _
  refine ⟨_, β, hf.set (k * 3 + i) v, h0, fun j hl => ?_⟩
  obtain ⟨h3, h4, h5, ⟨fb, h6⟩, h7⟩ := hj j hl
  exact ⟨by rw [if_neg (by omega)]; exact h3, h4, h5, ⟨fb, rowK h6 K (.inr (by omega))⟩, h7⟩

theorem CM.held {g hi k : Nat} {l : List CK} {w : World} (h : CM g hi l w) (hk : k < l.length) : ∃ b fb, w.cell? ⟨g, k * 3 + 2, none⟩ = some (.slice (some ⟨b, 0, none⟩) (ckK l k).hd.length (ckK l k).hd.length) ∧ g < b ∧ b < hi ∧ w.rowIs b 5 (ckK l k).hd.length fb ∧ ∀ w' fb', KeptIn b (b + 1) w w' → w'.rowIs b 5 (ckK l k).hd.length fb' → CM g hi l w' := by
  obtain ⟨f, β, hf, h0, hj⟩ := h
  obtain ⟨h3, h4, h5, ⟨fb, h6⟩, h7⟩ := hj k hk
  refine ⟨β k, fb, by rw [hf.cell (by omega), h3], h4, h5, h6, fun w' fb' K hr => ⟨f, β, rowK hf K (.inl (by omega)), h0, fun j hl => ?_⟩⟩
  obtain ⟨e3, e4, e5, ⟨fc, e6⟩, e7⟩ := hj j hl
  refine ⟨e3, e4, e5, ?_, e7⟩
  by_cases c : j = k
  · subst c; exact ⟨fb', hr⟩
  · have : β j ≠ β k := by
      rcases Nat.lt_or_gt_of_ne c with c | c
      · have := h7 j c; omega
      · have := e7 k c; omega
    exact ⟨fc, rowK e6 K (by omega)⟩

set_option maxRecDepth 100000 in
set_option maxHeartbeats 3200000 in
theorem markCheckS_bd (g hi c y : Nat) (l : List CK) (w : World) (h : CM g hi l w) (hl : (l.length : Int) + csz l ≤ 1048576) (y0 : 0 < y) (y1 : y ≤ 20000000) :
    Calls Tryz.prog 51 #[.slice (some ⟨g, 0, none⟩) l.length c, .int .i64 (y : Int)] w fun e w' => (∃ z : Nat, e = .returned (.int .i64 (z : Int)) ∧ 0 < z ∧ z ≤ y + 2 * l.length + csz l) ∧ KeptIn g hi w w' := by
  have HM := Hid.mk' h
  clear h
  go_enter Tryz.func51, Tryz.ntmps51
  go_wp2
  go_loopw [1, 5] (fun x i wr => ∃ k z : Nat, k ≤ l.length ∧ i = .int .i64 k ∧ x = .int .i64 (z : Int) ∧ 0 < z ∧ z ≤ y + 2 * k + csz (l.take k) ∧ CM g hi l wr ∧ KeptIn g hi w wr) (fun _ i _ => l.length - (intOf i).toNat)
  case atStart => exact ⟨0, y, Nat.zero_le _, rfl, rfl, y0, by omega, HM.out, KeptIn.refl _ _ _⟩
  case round =>
    obtain ⟨k, z, hk, rfl, rfl, z0, z1, hnm, hkp⟩ := hrel
    by_cases hlt : k < l.length
    · have ci : (k : Int) < (l.length : Int) := by omega
      have st := csz_take l k hlt
      have sl := csz_le l (k + 1)
      obtain ⟨f, β, hf, hgh, -⟩ := id hnm
      have hn1 : CM g hi l ((wr.setCell ⟨g, k * 3, none⟩ (.int .i64 (z : Int))).setCell ⟨g, k * 3 + 1, none⟩ (.int .i64 ((z : Int) + 1))) := (hnm.cell (i := 0) (by omega)).cell (i := 1) (by omega)
      have hk1 : KeptIn g hi w ((wr.setCell ⟨g, k * 3, none⟩ (.int .i64 (z : Int))).setCell ⟨g, k * 3 + 1, none⟩ (.int .i64 ((z : Int) + 1))) := (hkp.setCell (p := ⟨g, k * 3, none⟩) (Nat.le_refl _) hgh _).setCell (p := ⟨g, k * 3 + 1, none⟩) (Nat.le_refl _) hgh _
      have f0 := hf.frozen (k * 3)
      have f1 := hf.frozen (k * 3 + 1)
      obtain ⟨v0, g0⟩ : ∃ v, wr.cell? ⟨g, k * 3, none⟩ = some v := ⟨_, hf.cell (by omega)⟩
      obtain ⟨v1, g1⟩ : ∃ v, wr.cell? ⟨g, k * 3 + 1, none⟩ = some v := ⟨_, hf.cell (by omega)⟩
      obtain ⟨b, fb, a1, a3, a5, a7, a9⟩ := hn1.held hlt
      have KA := Hid.mk' (markByteS_row b (ckK l k).hd.length (ckK l k).hd.length (ckK l k).hd.length (z + 1 + 1) fb _ a7 (Nat.le_refl _) (by omega))
      have HA := Hid.mk' a9
      have HK := Hid.mk' hk1
      have hw1 : IntKind.i64.wrap ((z : Int) + 1) = (z : Int) + 1 := by rw [IntKind.wrap_i64]; omega
      have hw2 : IntKind.i64.wrap ((z : Int) + 1 + 1) = (z : Int) + 1 + 1 := by rw [IntKind.wrap_i64]; omega
      clear hn1 hk1 hnm hkp hf a7 a9
      generalize hV2 : (wr.setCell ⟨g, k * 3, none⟩ (.int .i64 (z : Int))).setCell ⟨g, k * 3 + 1, none⟩ (.int .i64 ((z : Int) + 1)) = V2 at *
      go_wp2_with fail
      clear hV2
      refine KA.out.mono ?_
      rintro e w2 ⟨rfl, hmr, hkk⟩
      have HN := Hid.mk' (HA.out w2 _ hkk hmr)
      have HK2 := Hid.mk' (HK.out.trans (hkk.mono (by omega) (by omega)))
      clear hmr hkk KA HA HK
      go_wp2
      go_roundw
      case rel => exact ⟨k + 1, z + 1 + 1 + (ckK l k).hd.length, by omega, by go_num, by congr 1, by omega, by omega, HN.out, HK2.out⟩
      case measure => simp [intOf]; omega
    · have ci : ¬ (k : Int) < (l.length : Int) := by omega
      have e : k = l.length := by omega
      subst e
      rw [List.take_length] at z1
      have HK := Hid.mk' hkp
      clear hkp hnm
      go_wp2
      go_ret
      exact ⟨⟨z, rfl, z0, z1⟩, HK.out⟩

theorem mx_tm {lo gd gt gh gc : Nat} {m : ME} {w : World} (x : MX (fun wa wb => TW wa m.tk m.tk.length wb) lo gd gt gh gc m w) : ∃ hi, gt < hi ∧ hi ≤ gh ∧ TM gt hi m.tk w := by
  obtain ⟨wa, wb, e1, h1, h2, h4⟩ := x.t
  subst e1
  obtain ⟨hi, k1, k2, k3⟩ := h1.tm
  have := x.h.lt
  exact ⟨hi, k1, by omega, k3.keep (by omega) (fun q a b c => h4 q a c)⟩

end Go.Proofs.YtkiinnmindmnbaaGreatDoor

namespace Go.Proofs.YtkiinnmindmnbaaGreatDoor
open Go.RowKit

def lcX (m : ME) (A : Int) : Int := if lcC m A = 0 then ((A.toNat / m.st.toNat * m.st.toNat : Nat) : Int) else 0
def lcY (m : ME) (A : Int) : Int := if lcC m A = 0 then ((tkN m.dt m.st.toNat (A.toNat / m.st.toNat)).length : Int) else 0
def lcL (m : ME) (A : Int) : List Int := if lcC m A = 0 then hdN m.dt m.st.toNat (A.toNat / m.st.toNat) else []

def LcQ (C X Y : Int) (L : List Int) (w : World) (e : Ending) (w' : World) : Prop :=
  ∃ v, e = .returned (.agg #[.int .i64 C, .int .i64 X, .int .i64 Y, v]) ∧ OB w' v L ∧ (∀ k, v.ownBlock = some k → w.heap.size ≤ k) ∧ Below w.heap.size w w'

theorem LcP.q {m : ME} {A : Int} {w w' : World} {e : Ending} (h : LcP m A w e w') : LcQ (lcC m A) (lcX m A) (lcY m A) (lcL m A) w e w' := by
  rcases h with ⟨h0, rfl, hb⟩ | ⟨h0, s, K, h240, hst, hs, hs2, hK, v, rfl, ho, hb⟩
  · refine ⟨.slice none 0 0, by unfold lcX lcY; rw [if_neg h0, if_neg h0], ?_, fun k hk => by simp [Value.ownBlock] at hk, hb⟩
    unfold lcL
    rw [if_neg h0]
    exact OB.none _
  · have e1 : m.st.toNat = s := by rw [hst]; simp
    obtain ⟨o1, o2⟩ := OB.of_own ho
    refine ⟨v, ?_, ?_, fun k hk => by have := o2 k hk; omega, hb⟩
    · unfold lcX lcY
      rw [if_pos h0, if_pos h0, e1, ← hK, h0]
    · unfold lcL
      rw [if_pos h0, e1, ← hK]
      exact o1

theorem lcL_len (m : ME) (A : Int) : ((lcL m A).length : Int) ≤ 1048576 := by
  unfold lcL
  split
  · have lH : (hdN m.dt m.st.toNat (A.toNat / m.st.toNat)).length ≤ 159 := (allX_good _ _ _ (.inl rfl)).len
    omega
  · simp

set_option maxHeartbeats 800000 in
theorem eqCR_any (C X Y : Int) (s u : Value) (l : List Int) (w : World) (h : ∃ a d, s = .slice a l.length d ∧ BAt w a l) (h' : ∃ a d, u = .slice a l.length d ∧ BAt w a l) (hl : (l.length : Int) ≤ 1048576) :
    Calls Tryz.prog 22 #[.agg #[.int .i64 C, .int .i64 X, .int .i64 Y, s], .agg #[.int .i64 C, .int .i64 X, .int .i64 Y, u]] w fun e w' => e = .returned (.bool true) ∧ Below w.heap.size w w' := by
  obtain ⟨a, d, rfl, h1⟩ := h
  obtain ⟨a', d', rfl, h2⟩ := h'
  have B0 := (below_new w (.cells #[.int .i64 C, .int .i64 X, .int .i64 Y, .slice a l.length d] 48)).alloc (by simp) (.cells #[.int .i64 C, .int .i64 X, .int .i64 Y, .slice a' l.length d'] 48)
  have KK := Hid.mk' (eqCheck_any X Y a a' d d' l _ (h1.below B0) (h2.below B0) hl)
  have BB := Hid.mk' B0
  clear B0 h1 h2
  go_enter Tryz.func22, Tryz.ntmps22
  go_wp2_with fail
  refine KK.out.mono ?_
  rintro e w1 ⟨rfl, hb1⟩
  have B1 := Hid.mk' (BB.out.trans (hb1.mono BB.out.size))
  clear KK BB hb1
  go_wp2
  go_ret
  exact ⟨rfl, B1.out⟩

set_option maxHeartbeats 800000 in
theorem markCk_any (X Y : Int) (s : Value) (l : List Int) (w : World) (h : OB w s l) (hl : (l.length : Int) ≤ 1048576) :
    Calls Tryz.prog 52 #[.agg #[.int .i64 X, .int .i64 Y, s], .int .i64 1] w fun e w' => e = .returned (.int .i64 (1 + (l.length : Int))) ∧ OB w' s (mb 1 l.length) ∧ ∃ w1, Below w.heap.size w w1 ∧ Turned s w1 w' := by
  have B0 := below_new w (.cells #[.int .i64 X, .int .i64 Y, s] 46)
  have KK := Hid.mk' (markByteS_own 1 s l _ (h.below B0) (by omega))
  obtain ⟨a, d, rfl, _⟩ := h.len
  have BB := Hid.mk' B0
  clear B0 h
  go_enter Tryz.func52, Tryz.ntmps52
  go_wp2_with fail
  refine KK.out.mono ?_
  rintro e w1 ⟨rfl, o1, t1⟩
  have O1 := Hid.mk' o1
  have T1 := Hid.mk' t1
  clear KK o1 t1
  go_wp2
  go_ret
  exact ⟨rfl, O1.out, _, BB.out, T1.out⟩

set_option maxHeartbeats 800000 in
theorem markCR_any (C X Y : Int) (s : Value) (l : List Int) (w : World) (h : OB w s l) (hl : (l.length : Int) ≤ 1048576) :
    Calls Tryz.prog 24 #[.agg #[.int .i64 C, .int .i64 X, .int .i64 Y, s], .int .i64 1] w fun e w' => e = .returned (.int .i64 (1 + (l.length : Int))) ∧ OB w' s (mb 1 l.length) ∧ ∃ w1, Below w.heap.size w w1 ∧ Turned s w1 w' := by
  have B0 := below_new w (.cells #[.int .i64 C, .int .i64 X, .int .i64 Y, s] 48)
  have KK := Hid.mk' (markCk_any X Y s l _ (h.below B0) hl)
  obtain ⟨a, d, rfl, _⟩ := h.len
  have BB := Hid.mk' B0
  clear B0 h
  go_enter Tryz.func24, Tryz.ntmps24
  go_wp2_with fail
  refine KK.out.mono ?_
  rintro e w1 ⟨rfl, o1, v1, b1, t1⟩
  have O1 := Hid.mk' o1
  have T1 := Hid.mk' t1
  have B1 := Hid.mk' (BB.out.trans (b1.mono BB.out.size))
  clear KK o1 t1 b1 BB
  go_wp2
  go_ret
  exact ⟨rfl, O1.out, _, B1.out, T1.out⟩

set_option maxHeartbeats 800000 in
theorem heldCk_any (X Y : Int) (s : Value) (n : Nat) (w : World) (h : ∃ a d, s = .slice a n d ∧ BAt w a (mb 1 n)) (hl : (n : Int) ≤ 1048576) :
    Calls Tryz.prog 53 #[.agg #[.int .i64 X, .int .i64 Y, s], .int .i64 1] w fun e w' => e = .returned (.int .i64 (1 + (n : Int))) ∧ Below w.heap.size w w' := by
  obtain ⟨a, d, rfl, h1⟩ := h
  have B0 := below_new w (.cells #[.int .i64 X, .int .i64 Y, .slice a n d] 46)
  have KK := Hid.mk' (heldByteS_any a d n 1 _ (h1.below B0) (by omega))
  have BB := Hid.mk' B0
  clear B0 h1
  go_enter Tryz.func53, Tryz.ntmps53
  go_wp2_with fail
  refine KK.out.mono ?_
  rintro e w1 ⟨rfl, hb1⟩
  have B1 := Hid.mk' (BB.out.trans (hb1.mono BB.out.size))
  clear KK BB hb1
  go_wp2
  go_ret
  exact ⟨rfl, B1.out⟩

set_option maxHeartbeats 800000 in
theorem heldCR_any (C X Y : Int) (s : Value) (n : Nat) (w : World) (h : ∃ a d, s = .slice a n d ∧ BAt w a (mb 1 n)) (hl : (n : Int) ≤ 1048576) :
    Calls Tryz.prog 25 #[.agg #[.int .i64 C, .int .i64 X, .int .i64 Y, s], .int .i64 1] w fun e w' => e = .returned (.int .i64 (1 + (n : Int))) ∧ Below w.heap.size w w' := by
  obtain ⟨a, d, rfl, h1⟩ := h
  have B0 := below_new w (.cells #[.int .i64 C, .int .i64 X, .int .i64 Y, .slice a n d] 48)
  have KK := Hid.mk' (heldCk_any X Y _ n _ ⟨a, d, rfl, h1.below B0⟩ hl)
  have BB := Hid.mk' B0
  clear B0 h1
  go_enter Tryz.func25, Tryz.ntmps25
  go_wp2_with fail
  refine KK.out.mono ?_
  rintro e w1 ⟨rfl, hb1⟩
  have B1 := Hid.mk' (BB.out.trans (hb1.mono BB.out.size))
  have zz : ¬ (1 + (n : Int) < 0) := by omega
  clear KK BB hb1
  go_wp2
  go_ret
  exact ⟨rfl, B1.out⟩

theorem MX.tw {lo gd gt gh gc : Nat} {m : ME} {w : World} (x : MX (fun wa wb => TW wa m.tk m.tk.length wb) lo gd gt gh gc m w) : MX (fun wa wb => TR wa m.tk m.tk.length wb) lo gd gt gh gc m w :=
  ⟨x.d, by obtain ⟨wa, wb, e, h, r⟩ := x.t; exact ⟨wa, wb, e, h.tr, r⟩, x.h, x.c, x.o1, x.o2, x.o3, x.o4⟩

theorem toMemo_tw (m : ME) (a t u c : Option Addr) (ca ct ch cc : Nat) (w : World) (hm : MAt w a t u c m) (hl : (msz m : Int) ≤ 1048576) :
    Calls Tryz.prog 17 #[.agg #[.slice a m.dt.length ca, .int .i64 m.st, .slice t m.tk.length ct, .slice u m.hd.length ch, .slice c m.cs.length cc]] w fun e w' => ∃ gd gt gh gc, e = .returned (.agg #[.slice (some ⟨gd, 0, none⟩) m.dt.length m.dt.length, .int .i64 m.st, .slice (some ⟨gt, 0, none⟩) m.tk.length m.tk.length, .slice (some ⟨gh, 0, none⟩) m.hd.length m.hd.length, .slice (some ⟨gc, 0, none⟩) m.cs.length m.cs.length]) ∧ MX (fun wa wb => TW wa m.tk m.tk.length wb) w.heap.size gd gt gh gc m w' ∧ Below w.heap.size w w' := by
  have MS : (msz m : Int) = m.dt.length + m.tk.length + tssz m.tk + m.hd.length + m.cs.length + csz m.cs := by unfold msz; omega
  refine toMemo_gen (fun wa wb => TW wa m.tk m.tk.length wb) m a t u c ca ct ch cc w hm hl (fun v hv => (toTokenW t ct m.tk v hv (by omega)).mono ?_)
  rintro e v' ⟨rfl, h⟩
  exact ⟨rfl, h, h.bl⟩

end Go.Proofs.YtkiinnmindmnbaaGreatDoor

namespace Go.Proofs.YtkiinnmindmnbaaGreatDoor
open Go.RowKit

end Go.Proofs.YtkiinnmindmnbaaGreatDoor

namespace Go.Proofs.YtkiinnmindmnbaaGreatDoor
open Go.RowKit

set_option maxRecDepth 100000 in
set_option maxHeartbeats 3200000 in
theorem markMemo_hi (lo gd gt gh gc : Nat) (m : ME) (w : World) (x : MX (fun wa wb => TW wa m.tk m.tk.length wb) lo gd gt gh gc m w) (hi0 : Nat) (cm : CM gc hi0 m.cs w) (h0 : hi0 ≤ w.heap.size) (hm : (msz m : Int) ≤ 1048576) :
    Calls Tryz.prog 23 #[.agg #[.slice (some ⟨gd, 0, none⟩) m.dt.length m.dt.length, .int .i64 m.st, .slice (some ⟨gt, 0, none⟩) m.tk.length m.tk.length, .slice (some ⟨gh, 0, none⟩) m.hd.length m.hd.length, .slice (some ⟨gc, 0, none⟩) m.cs.length m.cs.length], .int .i64 1] w fun e w' => (∃ z : Nat, e = .returned (.int .i64 (z : Int)) ∧ 0 < z) ∧ KeptIn lo hi0 w w' := by
  have MS_ : (msz m : Int) = m.dt.length + m.tk.length + tssz m.tk + m.hd.length + m.cs.length + csz m.cs := by unfold msz; omega
  have N0 := below_new w (.cells #[.slice (some ⟨gd, 0, none⟩) m.dt.length m.dt.length, .int .i64 m.st, .slice (some ⟨gt, 0, none⟩) m.tk.length m.tk.length, .slice (some ⟨gh, 0, none⟩) m.hd.length m.hd.length, .slice (some ⟨gc, 0, none⟩) m.cs.length m.cs.length] 26)
  have R0 := Hid.mk' (row5 w 26 (.slice (some ⟨gd, 0, none⟩) m.dt.length m.dt.length) (.int .i64 m.st) (.slice (some ⟨gt, 0, none⟩) m.tk.length m.tk.length) (.slice (some ⟨gh, 0, none⟩) m.hd.length m.hd.length) (.slice (some ⟨gc, 0, none⟩) m.cs.length m.cs.length))
  have X0 := x.below N0
  obtain ⟨hi, k1, k2, tm⟩ := mx_tm X0
  have o1 := x.o1
  have o2 := x.o2
  have o3 := x.o3
  have o4 := x.o4
  have lc : gc < hi0 := by obtain ⟨_, _, _, hf, _⟩ := cm; exact hf
  have lh := x.h.lt
  have CM0 := Hid.mk' (cm.keep (w' := w.alloc (.cells #[.slice (some ⟨gd, 0, none⟩) m.dt.length m.dt.length, .int .i64 m.st, .slice (some ⟨gt, 0, none⟩) m.tk.length m.tk.length, .slice (some ⟨gh, 0, none⟩) m.hd.length m.hd.length, .slice (some ⟨gc, 0, none⟩) m.cs.length m.cs.length] 26)) (fun q _ h => N0.block q (by omega)))
  have TM0 := Hid.mk' tm
  have RH0 := Hid.mk' X0.h
  have K0 : Hid (KeptIn lo hi0 w (w.alloc (.cells #[.slice (some ⟨gd, 0, none⟩) m.dt.length m.dt.length, .int .i64 m.st, .slice (some ⟨gt, 0, none⟩) m.tk.length m.tk.length, .slice (some ⟨gh, 0, none⟩) m.hd.length m.hd.length, .slice (some ⟨gc, 0, none⟩) m.cs.length m.cs.length] 26))) := Hid.mk' (KeptIn.of_below N0)
  have KD := Hid.mk' (markByteS_row gd m.dt.length m.dt.length m.dt.length 1 (bv m.dt) _ X0.d (Nat.le_refl _) (by omega))
  have sA : (m.dt.length : Int) ≤ 1048576 := by omega
  have sB : (m.tk.length : Int) + tssz m.tk ≤ 1048576 := by omega
  have sC : (m.hd.length : Int) ≤ 1048576 := by omega
  have sD : (m.cs.length : Int) + csz m.cs ≤ 1048576 := by omega
  clear MS_ hm
  clear N0 X0 tm cm x
  generalize hW : w.alloc (.cells #[.slice (some ⟨gd, 0, none⟩) m.dt.length m.dt.length, .int .i64 m.st, .slice (some ⟨gt, 0, none⟩) m.tk.length m.tk.length, .slice (some ⟨gh, 0, none⟩) m.hd.length m.hd.length, .slice (some ⟨gc, 0, none⟩) m.cs.length m.cs.length] 26) = W at *
  obtain ⟨x0, x1, x2, x3, x4, x5⟩ := cells5 R0.out
  go_enter Tryz.func23, Tryz.ntmps23
  go_wp2_with fail
  clear hW x0 x1 x2 x3 x4 x5
  obtain ⟨y9, hy9, hz9, hz9'⟩ : ∃ y9 : Nat, ((1 : Nat) : Int) + (m.dt.length : Int) = (y9 : Int) ∧ 0 < y9 ∧ y9 ≤ 1048577 := ⟨1 + m.dt.length, by omega, by omega, by omega⟩
  refine KD.out.mono ?_
  rintro e w1 ⟨he, -, hk1⟩
  rw [hy9] at he
  subst he
  have R1 := Hid.mk' (rowK R0.out hk1 (.inr (by omega)))
  have TM1 := Hid.mk' (TM0.out.keep hk1.size (fun q a b c => hk1.block q c (by omega)))
  have RH1 := Hid.mk' (rowK RH0.out hk1 (.inr (by omega)))
  have CM1 := Hid.mk' (CM0.out.keep (fun q a b => hk1.block q (by have := R0.out.lt; omega) (by omega)))
  have K1 := Hid.mk' (K0.out.trans (hk1.mono (by omega) (by omega)))
  clear hk1 KD K0 TM0 RH0 CM0 R0
  have KT := Hid.mk' (markTokenS_bd gt hi m.tk.length y9 m.tk w1 TM1.out (by omega) (by omega) (by omega))
  clear hy9
  obtain ⟨x0, x1, x2, x3, x4, x5⟩ := cells5 R1.out
  have tl := TM1.out.lt
  go_wp2_with fail
  clear x0 x1 x2 x3 x4 x5
  refine KT.out.mono ?_
  rintro e w2 ⟨⟨y, rfl, yp, yb⟩, hk2⟩
  have R2 := Hid.mk' (rowK R1.out hk2 (.inr (by omega)))
  have RH2 := Hid.mk' (rowK RH1.out hk2 (.inr (by omega)))
  have CM2 := Hid.mk' (CM1.out.keep (fun q a b => hk2.block q (by have := R1.out.lt; omega) (by omega)))
  have K2 := Hid.mk' (K1.out.trans (hk2.mono (by omega) (by omega)))
  clear hk2 KT K1 RH1 CM1 R1 TM1
  have KH := Hid.mk' (markByteS_row gh m.hd.length m.hd.length m.hd.length y (bv m.hd) w2 RH2.out (Nat.le_refl _) (by omega))
  obtain ⟨x0, x1, x2, x3, x4, x5⟩ := cells5 R2.out
  go_wp2_with fail
  clear x0 x1 x2 x3 x4 x5
  obtain ⟨y8, hy8, hz8, hz8'⟩ : ∃ y8 : Nat, (y : Int) + (m.hd.length : Int) = (y8 : Int) ∧ 0 < y8 ∧ y8 ≤ 20000000 := ⟨y + m.hd.length, by omega, by omega, by omega⟩
  refine KH.out.mono ?_
  rintro e w3 ⟨he, -, hk3⟩
  rw [hy8] at he
  subst he
  have R3 := Hid.mk' (rowK R2.out hk3 (.inr (by omega)))
  have CM3 := Hid.mk' (CM2.out.keep (fun q a b => hk3.block q (by have := R2.out.lt; omega) (by omega)))
  have K3 := Hid.mk' (K2.out.trans (hk3.mono (by omega) (by omega)))
  clear hk3 KH K2 RH2 CM2 R2
  have KC := Hid.mk' (markCheckS_bd gc hi0 m.cs.length y8 m.cs w3 CM3.out (by omega) (by omega) (by omega))
  clear hy8
  obtain ⟨x0, x1, x2, x3, x4, x5⟩ := cells5 R3.out
  go_wp2_with fail
  clear x0 x1 x2 x3 x4 x5
  refine KC.out.mono ?_
  rintro e w4 ⟨⟨z, rfl, zp, zb⟩, hk4⟩
  have K4 := Hid.mk' (K3.out.trans (hk4.mono (by omega) (Nat.le_refl _)))
  clear hk4 KC K3 CM3 R3
  go_wp2
  go_ret
  exact ⟨⟨z, rfl, zp⟩, K4.out⟩

theorem TurnedM.after {v : Value} {w w1 w2 : World} (h : Below w.heap.size w w1) (t : Turned v w1 w2) : Turned v w w2 :=
  ⟨t.os.trans h.os, t.tape.trans h.tape, t.output.trans h.output, Nat.le_trans h.size t.size, fun k hk hne => (t.block k (Nat.lt_of_lt_of_le hk h.size) hne).trans (h.block k hk)⟩

theorem TurnedM.below {v : Value} {w w1 : World} {B : Nat} (t : Turned v w w1) (hv : ∀ k, v.ownBlock = some k → B ≤ k) (hB : B ≤ w.heap.size) : Below B w w1 :=
  ⟨t.os, t.tape, t.output, t.size, fun k hk => t.block k (by omega) (fun e => by have := hv k e; omega)⟩

set_option maxRecDepth 100000 in
set_option maxHeartbeats 12800000 in
theorem lawLC_any (m : ME) (a t u c : Option Addr) (ca ct cu cc : Nat) (A : Int) (tp : TypeId) (pv : Value) (w : World) (hE : Env w.heap.size tp pv w) (ha : MAt w a t u c m) (wa : WideM m) (hub : Byt m.dt) (hcb : ∀ k, k < m.cs.length → Byt (ckK m.cs k).hd) (b1 : -9223372036854775808 ≤ A) (b2 : A ≤ 9223372036854775807) :
    Calls Tryz.prog 5 #[.agg #[.slice a m.dt.length ca, .int .i64 m.st, .slice t m.tk.length ct, .slice u m.hd.length cu, .slice c m.cs.length cc], .int .i64 A] w fun e w' => e = .returned (.bool true) ∧ Below w.heap.size w w' := by
  have B0 := below_new w (.cells #[.slice a m.dt.length ca, .int .i64 m.st, .slice t m.tk.length ct, .slice u m.hd.length cu, .slice c m.cs.length cc] 39)
  have KS := szMemo_any m a t u c ca ct cu cc 1048576 _ (ha.below B0) wa (by omega) (by omega)
  have HA := Hid.mk' ha
  have HB := Hid.mk' B0
  have R1 := Hid.mk' (row5 w 39 (.slice a m.dt.length ca) (.int .i64 m.st) (.slice t m.tk.length ct) (.slice u m.hd.length cu) (.slice c m.cs.length cc))
  have HE := Hid.mk' hE
  have HU := Hid.mk' hub
  have HC := Hid.mk' hcb
  clear B0 ha wa hE hub hcb
  by_cases g1 : (1048576 : Int) < msz m
  · rw [if_pos g1] at KS
    have KS := Hid.mk' KS
    generalize hW : w.alloc (.cells #[.slice a m.dt.length ca, .int .i64 m.st, .slice t m.tk.length ct, .slice u m.hd.length cu, .slice c m.cs.length cc] 39) = W at *
    obtain ⟨x0, x1, x2, x3, x4, x5⟩ := cells5 R1.out
    go_enter Tryz.func5, Tryz.ntmps5
    go_wp2_with fail
    clear hW
    refine KS.out.mono ?_
    rintro e w1 ⟨rfl, hb1⟩
    have HB := Hid.mk' (HB.out.trans (hb1.mono HB.out.size))
    clear hb1 KS
    go_wp2
    go_ret
    exact ⟨rfl, HB.out⟩
  rw [if_neg g1] at KS
  have KS := Hid.mk' KS
  have zz : ¬ (1048576 - (msz m : Int) < 0) := by omega
  have hl : (msz m : Int) ≤ 1048576 := by omega
  have hL := lcL_len m A
  have KS0 : Hid (∀ (V : World) (a' t' u' c' : Option Addr), MAt V a' t' u' c' m → Calls Tryz.prog 20 #[.agg #[.slice a' m.dt.length m.dt.length, .int .i64 m.st, .slice t' m.tk.length m.tk.length, .slice u' m.hd.length m.hd.length, .slice c' m.cs.length m.cs.length], .int .i64 A] V fun e w' => LcQ (lcC m A) (lcX m A) (lcY m A) (lcL m A) V e w') := Hid.mk' (fun V a' t' u' c' h => (specLC_any m a' t' u' c' _ _ _ _ A V h HU.out HC.out hl b1 b2).mono (fun _ _ h => h.q))
  have KI0 : Hid (∀ (V : World) (a' t' u' c' : Option Addr), Env V.heap.size tp pv V → MAt V a' t' u' c' m → Calls Tryz.prog 21 #[.agg #[.slice a' m.dt.length m.dt.length, .int .i64 m.st, .slice t' m.tk.length m.tk.length, .slice u' m.hd.length m.hd.length, .slice c' m.cs.length m.cs.length], .int .i64 A] V fun e w' => LcQ (lcC m A) (lcX m A) (lcY m A) (lcL m A) V e w') := Hid.mk' (fun V a' t' u' c' hE h => (implLC_any tp pv m a' t' u' c' _ _ _ _ A V hE h (Nat.le_refl _) HU.out hl b1 b2).mono (fun _ _ h => h.q))
  generalize lcC m A = C at *
  generalize lcX m A = X at *
  generalize lcY m A = Y at *
  generalize lcL m A = L at *
  clear g1 b1 b2
  generalize hW : w.alloc (.cells #[.slice a m.dt.length ca, .int .i64 m.st, .slice t m.tk.length ct, .slice u m.hd.length cu, .slice c m.cs.length cc] 39) = W at *
  obtain ⟨x0, x1, x2, x3, x4, x5⟩ := cells5 R1.out
  go_enter Tryz.func5, Tryz.ntmps5
  go_wp2_with fail
  clear hW
  refine KS.out.mono ?_
  rintro e w1 ⟨rfl, hb1⟩
  have HB := Hid.mk' (HB.out.trans (hb1.mono HB.out.size))
  have R1 := Hid.mk' (rowB R1.out hb1)
  clear hb1 KS x0 x1 x2 x3 x4 x5
  obtain ⟨x0, x1, x2, x3, x4, x5⟩ := cells5 R1.out
  go_wp2_with fail
  clear zz
  refine (toMemo_any m a t u c ca ct cu cc _ (HA.out.below HB.out) hl).mono ?_
  rintro e w3 ⟨g3, h3, i3, j3, rfl, t3, hb3⟩
  have HB := Hid.mk' (HB.out.trans (hb3.mono HB.out.size))
  have R1 := Hid.mk' (rowB R1.out hb3)
  have KF := Hid.mk' (KS0.out w3 _ _ _ _ t3)
  clear hb3 t3 x0 x1 x2 x3 x4 x5 KS0
  obtain ⟨x0, x1, x2, x3, x4, x5⟩ := cells5 R1.out
  go_wp2_with fail
  refine KF.out.mono ?_
  rintro e w5 ⟨v5, rfl, o5, -, hb5⟩
  obtain ⟨a5, c5, rfl, -⟩ := o5.len
  have N5 := below_new w5 (.cells #[.int .i64 C, .int .i64 X, .int .i64 Y, .slice a5 L.length c5] 48)
  have M5 := hb5.trans (N5.mono hb5.size)
  have HB := Hid.mk' (HB.out.trans (M5.mono HB.out.size))
  have R1 := Hid.mk' (rowB R1.out M5)
  have RW := Hid.mk' (row4 w5 48 (.int .i64 C) (.int .i64 X) (.int .i64 Y) (.slice a5 L.length c5))
  have O5 := Hid.mk' (o5.below N5)
  have L5 := Hid.mk' o5.lt
  have Z5 : Hid ((w5.alloc (.cells #[.int .i64 C, .int .i64 X, .int .i64 Y, .slice a5 L.length c5] 48)).heap.size = w5.heap.size + 1) := Hid.mk' (by simp)
  clear hb5 N5 M5 o5 KF x0 x1 x2 x3 x4 x5
  generalize hW5 : w5.alloc (.cells #[.int .i64 C, .int .i64 X, .int .i64 Y, .slice a5 L.length c5] 48) = W5 at *
  obtain ⟨x0, x1, x2, x3, x4, x5⟩ := cells5 R1.out
  go_wp2_with fail
  clear hW5
  refine (toMemo_tw m a t u c ca ct cu cc _ (HA.out.below HB.out) hl).mono ?_
  rintro e w6 ⟨g6, h6, i6, j6, rfl, t6, hb6⟩
  have N6 := below_new w6 (.cells #[.slice (some ⟨g6, 0, none⟩) m.dt.length m.dt.length, .int .i64 m.st, .slice (some ⟨h6, 0, none⟩) m.tk.length m.tk.length, .slice (some ⟨i6, 0, none⟩) m.hd.length m.hd.length, .slice (some ⟨j6, 0, none⟩) m.cs.length m.cs.length] 26)
  have HBw5 := Hid.mk' HB.out.size
  have HA1 : Hid (w.heap.size < W5.heap.size) := Hid.mk' R1.out.lt
  have M6 := hb6.trans (N6.mono hb6.size)
  have HB := Hid.mk' (HB.out.trans (M6.mono HB.out.size))
  have R1 := Hid.mk' (rowB R1.out M6)
  have RW := Hid.mk' (rowB RW.out M6)
  have O5 := Hid.mk' (O5.out.below M6)
  have Q6 := Hid.mk' (row5 w6 26 (.slice (some ⟨g6, 0, none⟩) m.dt.length m.dt.length) (.int .i64 m.st) (.slice (some ⟨h6, 0, none⟩) m.tk.length m.tk.length) (.slice (some ⟨i6, 0, none⟩) m.hd.length m.hd.length) (.slice (some ⟨j6, 0, none⟩) m.cs.length m.cs.length))
  have X6 := Hid.mk' (t6.below N6)
  have CM6 : Hid (CM j6 w6.heap.size m.cs (w6.alloc (.cells #[.slice (some ⟨g6, 0, none⟩) m.dt.length m.dt.length, .int .i64 m.st, .slice (some ⟨h6, 0, none⟩) m.tk.length m.tk.length, .slice (some ⟨i6, 0, none⟩) m.hd.length m.hd.length, .slice (some ⟨j6, 0, none⟩) m.cs.length m.cs.length] 26))) := Hid.mk' (t6.c.cm.keep (fun q _ h => N6.block q h))
  have S6 : Hid (W5.heap.size ≤ w6.heap.size) := Hid.mk' hb6.size
  have Z6 : Hid ((w6.alloc (.cells #[.slice (some ⟨g6, 0, none⟩) m.dt.length m.dt.length, .int .i64 m.st, .slice (some ⟨h6, 0, none⟩) m.tk.length m.tk.length, .slice (some ⟨i6, 0, none⟩) m.hd.length m.hd.length, .slice (some ⟨j6, 0, none⟩) m.cs.length m.cs.length] 26)).heap.size = w6.heap.size + 1) := Hid.mk' (by simp)
  clear hb6 t6 N6 M6 x0 x1 x2 x3 x4 x5
  generalize hW6 : w6.alloc (.cells #[.slice (some ⟨g6, 0, none⟩) m.dt.length m.dt.length, .int .i64 m.st, .slice (some ⟨h6, 0, none⟩) m.tk.length m.tk.length, .slice (some ⟨i6, 0, none⟩) m.hd.length m.hd.length, .slice (some ⟨j6, 0, none⟩) m.cs.length m.cs.length] 26) = W6 at *
  obtain ⟨x0, x1, x2, x3, x4, x5⟩ := cells5 Q6.out
  have KI := Hid.mk' (KI0.out W6 _ _ _ _ ((HE.out.keep HB.out).up HB.out.size (Nat.le_refl _)) X6.out.tw.at)
  go_wp2_with fail
  clear hW6
  refine KI.out.mono ?_
  rintro e w8 ⟨v8, rfl, o8, lo8, hb8⟩
  obtain ⟨a8, c8, rfl, -⟩ := o8.len
  have N8 := below_new w8 (.cells #[.int .i64 C, .int .i64 X, .int .i64 Y, .slice a8 L.length c8] 48)
  have M8 := hb8.trans (N8.mono hb8.size)
  have CM6 := Hid.mk' (CM6.out.keep (fun q _ h => M8.block q (by have := Q6.out.lt; omega)))
  have X6 := Hid.mk' (X6.out.below M8)
  have HB := Hid.mk' (HB.out.trans (M8.mono HB.out.size))
  have R1 := Hid.mk' (rowB R1.out M8)
  have RW := Hid.mk' (rowB RW.out M8)
  have Q6 := Hid.mk' (rowB Q6.out M8)
  have O5 := Hid.mk' (O5.out.below M8)
  have RG := Hid.mk' (row4 w8 48 (.int .i64 C) (.int .i64 X) (.int .i64 Y) (.slice a8 L.length c8))
  have O8 := Hid.mk' (o8.below N8)
  have LO8 := Hid.mk' lo8
  have L8 := Hid.mk' o8.lt
  have S8 : Hid (W6.heap.size ≤ w8.heap.size) := Hid.mk' hb8.size
  clear hb8 N8 M8 o8 lo8 KI x0 x1 x2 x3 x4 x5
  generalize hW8 : w8.alloc (.cells #[.int .i64 C, .int .i64 X, .int .i64 Y, .slice a8 L.length c8] 48) = W8 at *
  obtain ⟨y0, y1, y2, y3, y4⟩ := cells4 RG.out
  obtain ⟨k0, k1, k2, k3, k4⟩ := cells4 RW.out
  go_wp2_with fail
  clear hW8
  refine (eqCR_any C X Y _ _ L W8 O8.out.len O5.out.len hL).mono ?_
  rintro e w9 ⟨rfl, hb⟩
  have CM6 := Hid.mk' (CM6.out.keep (fun q _ h => hb.block q (by have := Q6.out.lt; omega)))
  have X6 := Hid.mk' (X6.out.below hb)
  have HB := Hid.mk' (HB.out.trans (hb.mono HB.out.size))
  have R1 := Hid.mk' (rowB R1.out hb)
  have RW := Hid.mk' (rowB RW.out hb)
  have RG := Hid.mk' (rowB RG.out hb)
  have Q6 := Hid.mk' (rowB Q6.out hb)
  have O5 := Hid.mk' (O5.out.below hb)
  have O8 := Hid.mk' (O8.out.below hb)
  clear hb y0 y1 y2 y3 y4 k0 k1 k2 k3 k4
  obtain ⟨x0, x1, x2, x3, x4, x5⟩ := cells5 R1.out
  obtain ⟨y0, y1, y2, y3, y4, y5⟩ := cells5 Q6.out
  have AA := Hid.mk' (HA.out.below HB.out)
  have U8 := Hid.mk' X6.out.tw.at
  go_wp2_with (first | go_big_skip)
  go_region_held3 (fun w' => w'.cell? ⟨w.heap.size, 0, none⟩ = some (.slice a m.dt.length ca) ∧ w'.cell? ⟨w.heap.size, 1, none⟩ = some (.int .i64 m.st) ∧ w'.cell? ⟨w.heap.size, 2, none⟩ = some (.slice t m.tk.length ct) ∧ w'.cell? ⟨w.heap.size, 3, none⟩ = some (.slice u m.hd.length cu) ∧ w'.cell? ⟨w.heap.size, 4, none⟩ = some (.slice c m.cs.length cc) ∧ w'.cell? ⟨w6.heap.size, 0, none⟩ = some (.slice (some ⟨g6, 0, none⟩) m.dt.length m.dt.length) ∧ w'.cell? ⟨w6.heap.size, 1, none⟩ = some (.int .i64 m.st) ∧ w'.cell? ⟨w6.heap.size, 2, none⟩ = some (.slice (some ⟨h6, 0, none⟩) m.tk.length m.tk.length) ∧ w'.cell? ⟨w6.heap.size, 3, none⟩ = some (.slice (some ⟨i6, 0, none⟩) m.hd.length m.hd.length) ∧ w'.cell? ⟨w6.heap.size, 4, none⟩ = some (.slice (some ⟨j6, 0, none⟩) m.cs.length m.cs.length)) (simp [*])
    (first | (go_at_call 17; refine (toMemo_any m a t u c ca ct cu cc _ (AA.out.below (Below.refl _ _).drew) hl).mono ?_; rintro e wZ ⟨gZ, hZ, iZ, jZ, rfl, tZ, hbZ⟩; replace hbZ := undrew hbZ; obtain ⟨hx1, hx2⟩ := bcell hbZ; have z1 := hbZ.size; have z2 : w.heap.size < wZ.heap.size := (by omega); have z3 : w6.heap.size < wZ.heap.size := (by omega)) | (go_at_call 19; refine (eqMemo_any m _ _ _ _ _ _ _ _ _ _ _ _ _ _ _ _ _ (U8.out.below hbZ) tZ hl).mono ?_; rintro e wA ⟨rfl, hbA⟩; obtain ⟨hx3, hx4⟩ := bcell hbA))
  have hbR := hbZ.trans (hbA.mono hbZ.size)
  have CM6 := Hid.mk' (CM6.out.keep (fun q _ h => hbR.block q (by have := Q6.out.lt; omega)))
  have X6 := Hid.mk' (X6.out.below hbR)
  have HB := Hid.mk' (HB.out.trans (hbR.mono HB.out.size))
  have R1 := Hid.mk' (rowB R1.out hbR)
  have RW := Hid.mk' (rowB RW.out hbR)
  have RG := Hid.mk' (rowB RG.out hbR)
  have Q6 := Hid.mk' (rowB Q6.out hbR)
  have O5 := Hid.mk' (O5.out.below hbR)
  have O8 := Hid.mk' (O8.out.below hbR)
  clear hx1 hx2 hx3 hx4 z1 z2 z3 hbZ hbA tZ hbR U8 AA x0 x1 x2 x3 x4 x5 y0 y1 y2 y3 y4 y5
  obtain ⟨y0, y1, y2, y3, y4, y5⟩ := cells5 Q6.out
  have KM := Hid.mk' (markMemo_hi _ _ _ _ _ m wA X6.out w6.heap.size CM6.out (by have := Q6.out.lt; omega) hl)
  go_wp2_with fail
  refine KM.out.mono ?_
  rintro e w12 ⟨⟨z, rfl, zp⟩, hk⟩
  have HB := Hid.mk' (HB.out.trans (hk.below (B := w.heap.size) HBw5.out HB.out.size))
  have R1 := Hid.mk' (rowK R1.out hk (.inl (by have := HBw5.out; have := HA1.out; omega)))
  have RW := Hid.mk' (rowK RW.out hk (.inl (by have := Z5.out; omega)))
  have RG := Hid.mk' (rowK RG.out hk (.inr (by have := S8.out; have := Z6.out; omega)))
  have O5 := Hid.mk' (O5.out.keep (fun k e hl => hk.block k hl (by have := L5.out k e; have := Z5.out; omega)))
  have O8 := Hid.mk' (O8.out.keep (fun k e hl => hk.block k hl (by have := LO8.out k e; have := Z6.out; omega)))
  clear hk KM X6 CM6 Q6 y0 y1 y2 y3 y4 y5
  obtain ⟨g0, g1, g2, g3, g4⟩ := cells4 RG.out
  obtain ⟨k0, k1, k2, k3, k4⟩ := cells4 RW.out
  have zn : ¬ ((z : Int) < 0) := by omega
  go_wp2_with fail
  refine (eqCR_any C X Y _ _ L w12 O8.out.len O5.out.len hL).mono ?_
  rintro e w13 ⟨rfl, hb⟩
  have HB := Hid.mk' (HB.out.trans (hb.mono HB.out.size))
  have R1 := Hid.mk' (rowB R1.out hb)
  have RW := Hid.mk' (rowB RW.out hb)
  have RG := Hid.mk' (rowB RG.out hb)
  have O5 := Hid.mk' (O5.out.below hb)
  have O8 := Hid.mk' (O8.out.below hb)
  clear hb g0 g1 g2 g3 g4 k0 k1 k2 k3 k4 zn
  obtain ⟨g0, g1, g2, g3, g4⟩ := cells4 RG.out
  go_wp2_with fail
  refine (markCR_any C X Y _ L w13 O8.out hL).mono ?_
  rintro e w14 ⟨rfl, o14, wq, bq, tq⟩
  have tu := TurnedM.after bq tq
  clear bq tq
  have HB := Hid.mk' (HB.out.trans (TurnedM.below (B := w.heap.size) tu (fun k e => by have := LO8.out k e; have := HBw5.out; have := S6.out; have := Z6.out; omega) HB.out.size))
  have R1 := Hid.mk' (R1.out.of_block (tu.block _ R1.out.lt (fun e => by have := LO8.out _ e; have := HBw5.out; have := S6.out; have := Z6.out; omega)))
  have RW := Hid.mk' (RW.out.of_block (tu.block _ RW.out.lt (fun e => by have := LO8.out _ e; have := Z5.out; have := S6.out; have := Z6.out; omega)))
  have RG := Hid.mk' (RG.out.of_block (tu.block _ RG.out.lt (fun e => by have := L8.out _ e; omega)))
  have O5 := Hid.mk' (O5.out.keep (fun k e hl => tu.block k hl (fun e2 => by have := L5.out k e; have := LO8.out k e2; have := Z5.out; have := S6.out; have := Z6.out; omega)))
  have O8 := Hid.mk' o14
  clear tu o14 g0 g1 g2 g3 g4
  obtain ⟨g0, g1, g2, g3, g4⟩ := cells4 RG.out
  have zz : ¬ (1 + (L.length : Int) < 0) := by omega
  go_wp2_with fail
  refine (heldCR_any C X Y _ L.length w14 (by have h := O8.out.len; rwa [mb_len] at h) hL).mono ?_
  rintro e w15 ⟨rfl, hb⟩
  have HB := Hid.mk' (HB.out.trans (hb.mono HB.out.size))
  have R1 := Hid.mk' (rowB R1.out hb)
  have RW := Hid.mk' (rowB RW.out hb)
  have RG := Hid.mk' (rowB RG.out hb)
  have O5 := Hid.mk' (O5.out.below hb)
  have O8 := Hid.mk' (O8.out.below hb)
  clear hb g0 g1 g2 g3 g4
  obtain ⟨x0, x1, x2, x3, x4, x5⟩ := cells5 R1.out
  go_wp2_with fail
  refine (toMemo_any m a t u c ca ct cu cc _ (HA.out.below HB.out) hl).mono ?_
  rintro e w16 ⟨g16, h16, i16, j16, rfl, t16, hb⟩
  have HB := Hid.mk' (HB.out.trans (hb.mono HB.out.size))
  have R1 := Hid.mk' (rowB R1.out hb)
  have RW := Hid.mk' (rowB RW.out hb)
  have RG := Hid.mk' (rowB RG.out hb)
  have O5 := Hid.mk' (O5.out.below hb)
  have O8 := Hid.mk' (O8.out.below hb)
  have KI := Hid.mk' (KI0.out w16 _ _ _ _ ((HE.out.keep HB.out).up HB.out.size (Nat.le_refl _)) t16)
  clear hb t16 x0 x1 x2 x3 x4 x5
  go_wp2_with fail
  refine KI.out.mono ?_
  rintro e w17 ⟨v17, rfl, o17, -, hb17⟩
  obtain ⟨a17, c17, rfl, -⟩ := o17.len
  have N17 := below_new w17 (.cells #[.int .i64 C, .int .i64 X, .int .i64 Y, .slice a17 L.length c17] 48)
  have hb := hb17.trans (N17.mono hb17.size)
  have HB := Hid.mk' (HB.out.trans (hb.mono HB.out.size))
  have RW := Hid.mk' (rowB RW.out hb)
  have RG := Hid.mk' (rowB RG.out hb)
  have O5 := Hid.mk' (O5.out.below hb)
  have O8 := Hid.mk' (O8.out.below hb)
  have RH := Hid.mk' (row4 w17 48 (.int .i64 C) (.int .i64 X) (.int .i64 Y) (.slice a17 L.length c17))
  have O17 := Hid.mk' (o17.below N17)
  clear hb hb17 N17 o17 KI
  generalize hW17 : w17.alloc (.cells #[.int .i64 C, .int .i64 X, .int .i64 Y, .slice a17 L.length c17] 48) = W17 at *
  obtain ⟨h0, h1, h2, h3, h4⟩ := cells4 RH.out
  obtain ⟨k0, k1, k2, k3, k4⟩ := cells4 RW.out
  go_wp2_with fail
  clear hW17
  refine (eqCR_any C X Y _ _ L W17 O17.out.len O5.out.len hL).mono ?_
  rintro e w18 ⟨rfl, hb⟩
  have HB := Hid.mk' (HB.out.trans (hb.mono HB.out.size))
  have RG := Hid.mk' (rowB RG.out hb)
  have O8 := Hid.mk' (O8.out.below hb)
  clear hb k0 k1 k2 k3 k4 h0 h1 h2 h3 h4
  obtain ⟨g0, g1, g2, g3, g4⟩ := cells4 RG.out
  go_wp2_with fail
  refine (heldCR_any C X Y _ L.length w18 (by have h := O8.out.len; rwa [mb_len] at h) hL).mono ?_
  rintro e w19 ⟨rfl, hb⟩
  have HB := Hid.mk' (HB.out.trans (hb.mono HB.out.size))
  clear hb
  go_wp2
  go_ret
  exact ⟨rfl, HB.out⟩

end Go.Proofs.YtkiinnmindmnbaaGreatDoor
