/- Tokens copied, the attributes of each behind those of the one ahead; their marks (In and Io, where there is no builder). -/
import Derived.Test.YtmhihkdnhaadeaaGreatDoorG35
import Derived.Test.YtmhihkdnhaadeaaGreatDoorG17
import Derived.Test.YtmhihkdnhaadeaaGreatDoorG23
import Derived.Test.YtmhihkdnhaadeaaGreatDoorG28
import Derived.Test.YtmhihkdnhaadeaaGreatDoorG8
import Derived.Test.YtmhihkdnhaadeaaGreatDoorG27
set_option maxHeartbeats 3200000
set_option maxRecDepth 100000
set_option linter.unusedVariables false
set_option linter.unusedSimpArgs false
namespace Go.Proofs.YtmhihkdnhaadeaaGreatDoor
open Go.RowKit
def TO (lo hi : Nat) (t : TK) (f : Nat → Value) (j : Nat) (w : World) : Prop :=
 f (j * 5) = .int .i64 t.kd ∧ f (j * 5 + 1) = .int .i64 t.by_ ∧ f (j * 5 + 2) = .string t.nm ∧ (∃ g, f (j * 5 + 3) = .slice (some ⟨g, 0, none⟩) t.at_.length t.at_.length ∧ lo ≤ g ∧ AOh hi g t.at_ w) ∧ f (j * 5 + 4) = .bool t.sh
structure TW (w : World) (l : List TK) (k : Nat) (wr : World) : Prop where
 bl : Below w.heap.size w wr
 row : ∃ (f : Nat → Value) (s : Nat → Nat), wr.rowIs w.heap.size 87 (l.length * 5) f ∧ w.heap.size < s 0 ∧ s k ≤ wr.heap.size ∧ (∀ j, j < k → s j ≤ s (j + 1)) ∧ ∀ j, j < k → TO (s j) (s (j + 1)) (tkK l j) f j wr
theorem TW.start (w : World) (l : List TK) : TW w l 0 (w.alloc (.cells (madeCells #[.int .i64 0, .int .i64 0, .string ⟨#[]⟩, .slice none 0 0, .bool false] (l.length * 5)) 87)) := by
 have h := TR.start w l
 obtain ⟨f, hf, _⟩ := h.row
 exact ⟨h.bl, f, fun _ => w.heap.size + 1, hf, Nat.lt_succ_self _, by simp, fun j hj => absurd hj (Nat.not_lt_zero _), fun j hj => absurd hj (Nat.not_lt_zero _)⟩
theorem TW.step {w wr w1 : World} {l : List TK} {k g : Nat} (h : TW w l k wr) (hb1 : Below wr.heap.size wr w1) (hg : wr.heap.size ≤ g) (hao : AO g (tkK l k).at_ w1) :
  TW w l (k + 1) (((((w1.setCell ⟨w.heap.size, k * 5, none⟩ (.int .i64 (tkK l k).kd)).setCell ⟨w.heap.size, k * 5 + 1, none⟩ (.int .i64 (tkK l k).by_)).setCell ⟨w.heap.size, k * 5 + 2, none⟩ (.string (tkK l k).nm)).setCell ⟨w.heap.size, k * 5 + 3, none⟩ (.slice (some ⟨g, 0, none⟩) (tkK l k).at_.length (tkK l k).at_.length)).setCell ⟨w.heap.size, k * 5 + 4, none⟩ (.bool (tkK l k).sh)) := by
 obtain ⟨f, s, hf, h0, h1, h2, hj⟩ := h.row
 have K := (((((KeptIn.refl w.heap.size (w.heap.size + 1) w1).setCell (p := ⟨w.heap.size, k * 5, none⟩) (Nat.le_refl _) (Nat.lt_succ_self _) (.int .i64 (tkK l k).kd)).setCell (p := ⟨w.heap.size, k * 5 + 1, none⟩) (Nat.le_refl _) (Nat.lt_succ_self _) (.int .i64 (tkK l k).by_)).setCell (p := ⟨w.heap.size, k * 5 + 2, none⟩) (Nat.le_refl _) (Nat.lt_succ_self _) (.string (tkK l k).nm)).setCell (p := ⟨w.heap.size, k * 5 + 3, none⟩) (Nat.le_refl _) (Nat.lt_succ_self _) (.slice (some ⟨g, 0, none⟩) (tkK l k).at_.length (tkK l k).at_.length)).setCell (p := ⟨w.heap.size, k * 5 + 4, none⟩) (Nat.le_refl _) (Nat.lt_succ_self _) (.bool (tkK l k).sh)
 have hf1 := rowB hf hb1
 have hsz := hb1.size
 have hwl : w.heap.size < wr.heap.size := hf.lt
 have mono := fun j (hj' : j ≤ k) => mono_s2 (n := k) h2 (i := 0) j (Nat.zero_le _) hj'
 have monk := fun j (hj' : j ≤ k) => mono_s2 (n := k) h2 (i := j) k hj' (Nat.le_refl _)
 refine ⟨(h.bl.trans (hb1.mono h.bl.size)).trans (K.below (Nat.le_refl _) (Nat.le_trans h.bl.size hsz)), _, fun i => if i ≤ k then s i else w1.heap.size, ((((hf1.set (k * 5) _).set (k * 5 + 1) _).set (k * 5 + 2) _).set (k * 5 + 3) _).set (k * 5 + 4) _, ?_, ?_, fun j hj' => ?_, fun j hj' => ?_⟩
 ·dsimp only; rw [if_pos (Nat.zero_le _)]; exact h0
 ·dsimp only; rw [if_neg (by omega)]; exact K.size
 ·dsimp only
  by_cases e : j = k
  ·subst e; rw [if_pos (Nat.le_refl _), if_neg (by omega)]; omega
  ·rw [if_pos (by omega), if_pos (by omega)]; exact h2 j (by omega)
 ·by_cases e : j = k
  ·subst e
   dsimp only
   rw [if_pos (Nat.le_refl _), if_neg (by omega)]
   refine ⟨?_, ?_, ?_, ⟨g, ?_, by omega, (hao.h (Nat.le_refl _)).kept K (.inr (by omega))⟩, ?_⟩
   ·dsimp only; rw [if_neg (by omega), if_neg (by omega), if_neg (by omega), if_neg (by omega), if_pos rfl]
   ·dsimp only; rw [if_neg (by omega), if_neg (by omega), if_neg (by omega), if_pos rfl]
   ·dsimp only; rw [if_neg (by omega), if_neg (by omega), if_pos rfl]
   ·dsimp only; rw [if_neg (by omega), if_pos rfl]
   ·dsimp only; rw [if_pos rfl]
  ·dsimp only
   rw [if_pos (by omega), if_pos (by omega)]
   have m1 := mono j (by omega)
   obtain ⟨e1, e2, e3, ⟨g', e4, e5, e6⟩, e7⟩ := hj j (by omega)
   refine ⟨?_, ?_, ?_, ⟨g', ?_, e5, (e6.below hb1).kept K (.inr (by omega))⟩, ?_⟩
   ·dsimp only; rw [if_neg (by omega), if_neg (by omega), if_neg (by omega), if_neg (by omega), if_neg (by omega)]; exact e1
   ·dsimp only; rw [if_neg (by omega), if_neg (by omega), if_neg (by omega), if_neg (by omega), if_neg (by omega)]; exact e2
   ·dsimp only; rw [if_neg (by omega), if_neg (by omega), if_neg (by omega), if_neg (by omega), if_neg (by omega)]; exact e3
   ·dsimp only; rw [if_neg (by omega), if_neg (by omega), if_neg (by omega), if_neg (by omega), if_neg (by omega)]; exact e4
   ·dsimp only; rw [if_neg (by omega), if_neg (by omega), if_neg (by omega), if_neg (by omega), if_neg (by omega)]; exact e7
theorem TW.tr {w wr : World} {l : List TK} {k : Nat} (h : TW w l k wr) : TR w l k wr := by
 obtain ⟨f, s, hf, h0, h1, h2, hj⟩ := h.row
 refine ⟨h.bl, f, hf, fun j hk => ?_⟩
 have m1 := mono_s2 (n := k) h2 (i := 0) j (Nat.zero_le _) (by omega)
 obtain ⟨e1, e2, e3, ⟨g', e4, e5, e6⟩, e7⟩ := hj j hk
 exact ⟨e1, e2, e3, ⟨g', e4, by omega, e6.ao⟩, e7⟩
theorem toTokenW (a : Option Addr) (c : Nat) (l : List TK) (w : World) (ha : TsAt w a l) (hl : (l.length : Int) + tssz l ≤ 1048576) :
  Calls Tryz.prog 25 #[.slice a l.length c] w fun e w' => e = .returned (.slice (some ⟨w.heap.size, 0, none⟩) l.length l.length) ∧ TW w l l.length w' := by
 have hmk := make_tokens (P := Tryz.prog) 31 87 Tryz.underlying31 Tryz.info87 l.length (by omega)
 have HA := Hid.mk' ha
 clear ha
 go_enter Tryz.func25, Tryz.ntmps25
 go_wp2
 go_loopw [4] (fun i wr => ∃ k : Nat, k ≤ l.length ∧ i = .int .i64 k ∧ TW w l k wr) (fun i _ => l.length - (intOf i).toNat)
 case atStart => exact ⟨0, Nat.zero_le _, rfl, TW.start w l⟩
 case round =>
  obtain ⟨k, hk, rfl, hr⟩ := hrel
  have HR := Hid.mk' hr
  clear hr hmk
  by_cases hlt : k < l.length
  ·have ci : (k : Int) < (l.length : Int) := by omega
   rcases HA.out with ha | ⟨b, o, rfl, hbs, hc⟩
   ·exact absurd hlt (by rw [ha]; exact Nat.not_lt_zero _)
   obtain ⟨q1, q2, q3, ⟨p, d, q4, q5⟩, q6⟩ := hc k hlt
   have h1 := (HR.out.bl.cell hbs).trans q1
   have h2 := (HR.out.bl.cell hbs).trans q2
   have h3 := (HR.out.bl.cell hbs).trans q3
   have h4 := (HR.out.bl.cell hbs).trans q4
   have h6 := (HR.out.bl.cell hbs).trans q6
   have st := tssz_take l k hlt
   have sl := tssz_le l (k + 1)
   unfold tsz at st
   have KA := Hid.mk' (toToken_any (tkK l k) p d wr (q5.below HR.out.bl) (by omega))
   clear q1 q2 q3 q4 q5 q6 hc st sl
   go_wp2_with fail
   refine KA.out.mono ?_
   rintro e w1 ⟨g, rfl, hg, hao, hbl⟩
   obtain ⟨f00, s00, hf00, _⟩ := HR.out.row
   have hf := rowB hf00 hbl
   have f0 := hf.frozen (k * 5)
   have f1 := hf.frozen (k * 5 + 1)
   have f2 := hf.frozen (k * 5 + 2)
   have f3 := hf.frozen (k * 5 + 3)
   have f4 := hf.frozen (k * 5 + 4)
   obtain ⟨v0, g0⟩ : ∃ v, w1.cell? ⟨w.heap.size, k * 5, none⟩ = some v := ⟨_, hf.cell (by omega)⟩
   obtain ⟨v1, g1⟩ : ∃ v, w1.cell? ⟨w.heap.size, k * 5 + 1, none⟩ = some v := ⟨_, hf.cell (by omega)⟩
   obtain ⟨v2, g2⟩ : ∃ v, w1.cell? ⟨w.heap.size, k * 5 + 2, none⟩ = some v := ⟨_, hf.cell (by omega)⟩
   obtain ⟨v3, g3⟩ : ∃ v, w1.cell? ⟨w.heap.size, k * 5 + 3, none⟩ = some v := ⟨_, hf.cell (by omega)⟩
   obtain ⟨v4, g4⟩ : ∃ v, w1.cell? ⟨w.heap.size, k * 5 + 4, none⟩ = some v := ⟨_, hf.cell (by omega)⟩
   have R1 := Hid.mk' (HR.out.step hbl hg hao)
   clear hf hf00 hao hbl KA h1 h2 h3 h4 h6 hg
   go_wp2
   go_roundw
   case rel => exact ⟨k + 1, by omega, by go_num, R1.out⟩
   case measure => simp [intOf]; omega
  ·have ci : ¬ (k : Int) < (l.length : Int) := by omega
   have e : k = l.length := by omega
   subst e
   go_wp2
   go_ret
   exact ⟨rfl, HR.out⟩
def TM (g hi : Nat) (l : List TK) (w : World) : Prop := ∃ (f : Nat → Value) (s : Nat → Nat), w.rowIs g 87 (l.length * 5) f ∧ g < s 0 ∧ s l.length = hi ∧ hi ≤ w.heap.size ∧ (∀ j, j < l.length → s j ≤ s (j + 1)) ∧ ∀ j, j < l.length → ∃ ga, f (j * 5 + 3) = .slice (some ⟨ga, 0, none⟩) (tkK l j).at_.length (tkK l j).at_.length ∧ s j ≤ ga ∧ MR ga (s (j + 1)) (tkK l j).at_ w
theorem TW.tm {w wr : World} {l : List TK} (h : TW w l l.length wr) : ∃ hi, w.heap.size < hi ∧ hi ≤ wr.heap.size ∧ TM w.heap.size hi l wr := by
 obtain ⟨f, s, hf, h0, h1, h2, hj⟩ := h.row
 refine ⟨s l.length, Nat.lt_of_lt_of_le h0 (mono_s2 h2 (i := 0) _ (Nat.zero_le _) (Nat.le_refl _)), h1, f, s, hf, h0, rfl, h1, h2, fun j hk => ?_⟩
 obtain ⟨_, _, _, ⟨g', e4, e5, e6⟩, _⟩ := hj j hk
 exact ⟨g', e4, e5, e6.mr⟩
theorem TM.lt {g hi : Nat} {l : List TK} {w : World} (h : TM g hi l w) : g < hi ∧ hi ≤ w.heap.size := by
 obtain ⟨f, s, _, h0, h1, h2, h3, _⟩ := h
 have := mono_s2 h3 (i := 0) l.length (Nat.zero_le _) (Nat.le_refl _)
 exact ⟨by omega, h2⟩
theorem TM.keep {g hi : Nat} {l : List TK} {w w' : World} (h : TM g hi l w) (hs : w.heap.size ≤ w'.heap.size) (hk : ∀ k, g ≤ k → k < hi → k < w.heap.size → w'.heap[k]? = w.heap[k]?) : TM g hi l w' := by
 obtain ⟨f, s, hf, h0, h1, h2, h3, hj⟩ := h
 have m0 := mono_s2 h3 (i := 0) l.length (by omega) (Nat.le_refl _)
 refine ⟨f, s, hf.of_block (hk g (Nat.le_refl _) (by omega) hf.lt), h0, h1, Nat.le_trans h2 hs, h3, fun j hl => ?_⟩
 obtain ⟨ga, e, hlo, hm⟩ := hj j hl
 have m1 := mono_s2 h3 (i := 0) j (by omega) (by omega)
 have m2 := mono_s2 h3 (i := j + 1) l.length (by omega) (Nat.le_refl _)
 exact ⟨ga, e, hlo, hm.keep (fun i a c d => hk i (by omega) (by omega) d)⟩
theorem TM.cell {g hi k i : Nat} {l : List TK} {w : World} {v : Value} (h : TM g hi l w) (hk : k < l.length) (hi2 : i < 5) (hv : ¬ i = 3) : TM g hi l (w.setCell ⟨g, k * 5 + i, none⟩ v) := by
 obtain ⟨f, s, hf, h0, h1, h2, h3, hj⟩ := h
 have K : KeptIn g (g + 1) w (w.setCell ⟨g, k * 5 + i, none⟩ v) := (KeptIn.refl _ _ w).setCell (p := ⟨g, k * 5 + i, none⟩) (Nat.le_refl _) (Nat.lt_succ_self _) _
 refine ⟨_, s, hf.set (k * 5 + i) v, h0, h1, by simpa [World.setCell] using h2, h3, fun j hl => ?_⟩
 have m1 := mono_s2 h3 (i := 0) j (by omega) (by omega)
 obtain ⟨ga, e, hlo, hm⟩ := hj j hl
 exact ⟨ga, by rw [if_neg (by omega)]; exact e, hlo, hm.keep (fun q a c d => K.block q d (by omega))⟩
theorem TM.attrs {g hi k : Nat} {l : List TK} {w : World} (h : TM g hi l w) (hk : k < l.length) : ∃ ga b, w.cell? ⟨g, k * 5 + 3, none⟩ = some (.slice (some ⟨ga, 0, none⟩) (tkK l k).at_.length (tkK l k).at_.length) ∧ g < ga ∧ b ≤ hi ∧ MR ga b (tkK l k).at_ w ∧ ∀ w', KeptIn ga b w w' → MR ga b (tkK l k).at_ w' → TM g hi l w' := by
 obtain ⟨f, s, hf, h0, h1, h2, h3, hj⟩ := h
 obtain ⟨ga, e, hlo, hm⟩ := hj k hk
 have m0 := mono_s2 h3 (i := 0) k (by omega) (by omega)
 have m2 := mono_s2 h3 (i := k + 1) l.length (by omega) (Nat.le_refl _)
 refine ⟨ga, s (k + 1), by rw [hf.cell (by omega), e], by omega, by omega, hm, fun w' K hM => ?_⟩
 refine ⟨f, s, rowK hf K (.inl (by omega)), h0, h1, Nat.le_trans h2 K.size, h3, fun j hl => ?_⟩
 by_cases e' : j = k
 ·subst e'; exact ⟨ga, e, hlo, hM⟩
 ·obtain ⟨gb, e2, hlo2, hm2⟩ := hj j hl
  refine ⟨gb, e2, hlo2, hm2.keep (fun q x y z => K.block q z ?_)⟩
  rcases Nat.lt_or_gt_of_ne e' with hlt' | hgt
  ·have := mono_s2 h3 (i := j + 1) k (by omega) (by omega); omega
  ·have := mono_s2 h3 (i := k + 1) j (by omega) (by omega); omega
theorem markTokenS_bd (g hi c y : Nat) (l : List TK) (w : World) (h : TM g hi l w) (hl : (l.length : Int) + tssz l ≤ 1048576) (y0 : 0 < y) (y1 : y ≤ 4000000) :
  Calls Tryz.prog 34 #[.slice (some ⟨g, 0, none⟩) l.length c, .int .i64 (y : Int)] w fun e w' => (∃ z : Nat, e = .returned (.int .i64 (z : Int)) ∧ 0 < z ∧ z ≤ y + 4 * l.length + tssz l) ∧ KeptIn g hi w w' := by
 have HM := Hid.mk' h
 clear h
 go_enter Tryz.func34, Tryz.ntmps34
 go_wp2
 go_loopw [1, 5] (fun x i wr => ∃ k z : Nat, k ≤ l.length ∧ i = .int .i64 k ∧ x = .int .i64 (z : Int) ∧ 0 < z ∧ z ≤ y + 4 * k + tssz (l.take k) ∧ TM g hi l wr ∧ KeptIn g hi w wr) (fun _ i _ => l.length - (intOf i).toNat)
 case atStart => exact ⟨0, y, Nat.zero_le _, rfl, rfl, y0, by omega, HM.out, KeptIn.refl _ _ _⟩
 case round =>
  obtain ⟨k, z, hk, rfl, rfl, z0, z1, hnm, hkp⟩ := hrel
  by_cases hlt : k < l.length
  ·have ci : (k : Int) < (l.length : Int) := by omega
   have st := tssz_take l k hlt
   have sl := tssz_le l (k + 1)
   unfold tsz at st
   have vz := vsz_asz (tkK l k).at_
   have gh := hnm.lt
   have hn1 : TM g hi l ((wr.setCell ⟨g, k * 5, none⟩ (.int .i64 (z : Int))).setCell ⟨g, k * 5 + 1, none⟩ (.int .i64 ((z : Int) + 1))) := (hnm.cell (i := 0) hlt (by omega) (by omega)).cell (i := 1) hlt (by omega) (by omega)
   have hk1 : KeptIn g hi w ((wr.setCell ⟨g, k * 5, none⟩ (.int .i64 (z : Int))).setCell ⟨g, k * 5 + 1, none⟩ (.int .i64 ((z : Int) + 1))) := (hkp.setCell (p := ⟨g, k * 5, none⟩) (Nat.le_refl _) gh.1 _).setCell (p := ⟨g, k * 5 + 1, none⟩) (Nat.le_refl _) gh.1 _
   obtain ⟨f, _, hf, _⟩ := id hnm
   have f0 := hf.frozen (k * 5)
   have f1 := hf.frozen (k * 5 + 1)
   obtain ⟨v0, g0⟩ : ∃ v, wr.cell? ⟨g, k * 5, none⟩ = some v := ⟨_, hf.cell (by omega)⟩
   obtain ⟨v1, g1⟩ : ∃ v, wr.cell? ⟨g, k * 5 + 1, none⟩ = some v := ⟨_, hf.cell (by omega)⟩
   have HN := Hid.mk' hn1
   have HK := Hid.mk' hk1
   have KT := Hid.mk' (markText_any (z + 1 + 1) ((wr.setCell ⟨g, k * 5, none⟩ (.int .i64 (z : Int))).setCell ⟨g, k * 5 + 1, none⟩ (.int .i64 ((z : Int) + 1))) (by omega) (by omega))
   clear hn1 hk1 hnm hkp hf
   generalize hV : (wr.setCell ⟨g, k * 5, none⟩ (.int .i64 (z : Int))).setCell ⟨g, k * 5 + 1, none⟩ (.int .i64 ((z : Int) + 1)) = V at *
   go_wp2_with fail
   clear hV
   refine KT.out.mono ?_
   rintro e w1 ⟨sx, rfl, hb⟩
   have hn2 := HN.out.keep hb.size (fun q _ _ hq => hb.block q hq)
   have hn3 : TM g hi l (w1.setCell ⟨g, k * 5 + 2, none⟩ (.string sx)) := hn2.cell (i := 2) hlt (by omega) (by omega)
   have hk3 : KeptIn g hi w (w1.setCell ⟨g, k * 5 + 2, none⟩ (.string sx)) := (HK.out.trans (KeptIn.of_below hb)).setCell (p := ⟨g, k * 5 + 2, none⟩) (Nat.le_refl _) gh.1 _
   obtain ⟨ff, _, hf2, _⟩ := id hn2
   have f2 := hf2.frozen (k * 5 + 2)
   obtain ⟨v2, g2⟩ : ∃ v, w1.cell? ⟨g, k * 5 + 2, none⟩ = some v := ⟨_, hf2.cell (by omega)⟩
   obtain ⟨ga, b, a1, a3, a5, a7, a9⟩ := hn3.attrs hlt
   have gh3 := hn3.lt
   have KA := Hid.mk' (markAttrS_gen ga b (tkK l k).at_.length (z + 1 + 1 + 1) (tkK l k).at_ _ a7 (by omega) (by omega) (by omega) (by omega))
   have HA := Hid.mk' a9
   have HK := Hid.mk' hk3
   clear hn2 hn3 hk3 hb hf2 KT HN a7 a9 gh3
   generalize hV2 : w1.setCell ⟨g, k * 5 + 2, none⟩ (.string sx) = V2 at *
   go_wp2_with fail
   clear hV2
   refine KA.out.mono ?_
   rintro e w2 ⟨rfl, hmr, hkk⟩
   have hn4 := HA.out w2 hkk hmr
   have HK := Hid.mk' (HK.out.trans (hkk.mono (by omega) (by omega)))
   obtain ⟨z2, hz2⟩ : ∃ z2 : Nat, z + 1 + 1 + 1 + (tkK l k).at_.length + vsz (tkK l k).at_ = z2 := ⟨_, rfl⟩
   have ez : ((z + 1 + 1 + 1 : Nat) : Int) + ((tkK l k).at_.length : Int) + (vsz (tkK l k).at_ : Int) = (z2 : Int) := by omega
   rw [ez]
   obtain ⟨f4, _, hf4, _⟩ := id hn4
   have f4' := hf4.frozen (k * 5 + 4)
   obtain ⟨v4, g4⟩ : ∃ v, w2.cell? ⟨g, k * 5 + 4, none⟩ = some v := ⟨_, hf4.cell (by omega)⟩
   have HN5 : Hid (∀ v, TM g hi l (w2.setCell ⟨g, k * 5 + 4, none⟩ v)) := Hid.mk' (fun v => hn4.cell (i := 4) hlt (by omega) (by omega))
   have HK5 : Hid (∀ v, KeptIn g hi w (w2.setCell ⟨g, k * 5 + 4, none⟩ v)) := Hid.mk' (fun v => HK.out.setCell (p := ⟨g, k * 5 + 4, none⟩) (Nat.le_refl _) gh.1 _)
   clear hkk hmr KA HA hn4 hf4 a1 ez
   go_wp2
   go_roundw
   case rel => exact ⟨k + 1, z2 + 1, by omega, by go_num, by simp, by omega, by omega, HN5.out _, HK5.out _⟩
   case measure => simp [intOf]; omega
  ·have ci : ¬ (k : Int) < (l.length : Int) := by omega
   have HK := Hid.mk' hkp
   have e9 : k = l.length := by omega
   have zb : z ≤ y + 4 * l.length + tssz l := by rw [e9, List.take_length] at z1; exact z1
   clear hnm hkp
   go_wp2
   go_ret
   exact ⟨⟨z, rfl, z0, zb⟩, HK.out⟩
def CM (g hi : Nat) (l : List CK) (w : World) : Prop := ∃ (f : Nat → Value) (β : Nat → Nat), w.rowIs g 57 (l.length * 3) f ∧ g < hi ∧ ∀ j, j < l.length → f (j * 3 + 2) = .slice (some ⟨β j, 0, none⟩) (ckK l j).hd.length (ckK l j).hd.length ∧ g < β j ∧ β j < hi ∧ (∃ fb, w.rowIs (β j) 5 (ckK l j).hd.length fb) ∧ ∀ i, i < j → β i < β j
theorem CX.cm {g : Nat} {l : List CK} {w : World} (h : CX g l w) : CM g w.heap.size l w := by
 obtain ⟨f, β, hf, hj⟩ := h
 refine ⟨f, β, hf, hf.lt, fun j hl => ?_⟩
 obtain ⟨_, _, h3, h4, h5, h6⟩ := hj j hl
 exact ⟨h3, h4, h5.lt, ⟨_, h5⟩, h6⟩
theorem CM.keep {g hi : Nat} {l : List CK} {w w' : World} (h : CM g hi l w) (hk : ∀ q, g ≤ q → q < hi → w'.heap[q]? = w.heap[q]?) : CM g hi l w' := by
 obtain ⟨f, β, hf, h0, hj⟩ := h
 refine ⟨f, β, hf.of_block (hk _ (Nat.le_refl _) h0), h0, fun j hl => ?_⟩
 obtain ⟨h3, h4, h5, ⟨fb, h6⟩, h7⟩ := hj j hl
 exact ⟨h3, h4, h5, ⟨fb, h6.of_block (hk _ (by omega) h5)⟩, h7⟩
theorem CM.cell {g hi k i : Nat} {l : List CK} {w : World} {v : Value} (h : CM g hi l w) (hi2 : i < 2) : CM g hi l (w.setCell ⟨g, k * 3 + i, none⟩ v) := by
 obtain ⟨f, β, hf, h0, hj⟩ := h
 have K : KeptIn g (g + 1) w (w.setCell ⟨g, k * 3 + i, none⟩ v) := (KeptIn.refl _ _ w).setCell (p := ⟨g, k * 3 + i, none⟩) (Nat.le_refl _) (Nat.lt_succ_self _) _
 refine ⟨_, β, hf.set (k * 3 + i) v, h0, fun j hl => ?_⟩
 obtain ⟨h3, h4, h5, ⟨fb, h6⟩, h7⟩ := hj j hl
 exact ⟨by rw [if_neg (by omega)]; exact h3, h4, h5, ⟨fb, rowK h6 K (.inr (by omega))⟩, h7⟩
theorem CM.held {g hi k : Nat} {l : List CK} {w : World} (h : CM g hi l w) (hk : k < l.length) : ∃ b fb, w.cell? ⟨g, k * 3 + 2, none⟩ = some (.slice (some ⟨b, 0, none⟩) (ckK l k).hd.length (ckK l k).hd.length) ∧ g < b ∧ b < hi ∧ w.rowIs b 5 (ckK l k).hd.length fb ∧ ∀ w' fb', KeptIn b (b + 1) w w' → w'.rowIs b 5 (ckK l k).hd.length fb' → CM g hi l w' := by
 obtain ⟨f, β, hf, h0, hj⟩ := h
 obtain ⟨h3, h4, h5, ⟨fb, h6⟩, h7⟩ := hj k hk
 refine ⟨β k, fb, by rw [hf.cell (by omega), h3], h4, h5, h6, fun w' fb' K hr => ⟨f, β, rowK hf K (.inl (by omega)), h0, fun j hl => ?_⟩⟩
 obtain ⟨e3, e4, e5, ⟨fc, e6⟩, e7⟩ := hj j hl
 refine ⟨e3, e4, e5, ?_, e7⟩
 by_cases c : j = k
 ·subst c; exact ⟨fb', hr⟩
 ·have : β j ≠ β k := by
   rcases Nat.lt_or_gt_of_ne c with c | c
   ·have := h7 j c; omega
   ·have := e7 k c; omega
  exact ⟨fc, rowK e6 K (by omega)⟩
theorem markCheckS_bd (g hi c y : Nat) (l : List CK) (w : World) (h : CM g hi l w) (hl : (l.length : Int) + csz l ≤ 1048576) (y0 : 0 < y) (y1 : y ≤ 20000000) :
  Calls Tryz.prog 35 #[.slice (some ⟨g, 0, none⟩) l.length c, .int .i64 (y : Int)] w fun e w' => (∃ z : Nat, e = .returned (.int .i64 (z : Int)) ∧ 0 < z ∧ z ≤ y + 2 * l.length + csz l) ∧ KeptIn g hi w w' := by
 have HM := Hid.mk' h
 clear h
 go_enter Tryz.func35, Tryz.ntmps35
 go_wp2
 go_loopw [1, 5] (fun x i wr => ∃ k z : Nat, k ≤ l.length ∧ i = .int .i64 k ∧ x = .int .i64 (z : Int) ∧ 0 < z ∧ z ≤ y + 2 * k + csz (l.take k) ∧ CM g hi l wr ∧ KeptIn g hi w wr) (fun _ i _ => l.length - (intOf i).toNat)
 case atStart => exact ⟨0, y, Nat.zero_le _, rfl, rfl, y0, by omega, HM.out, KeptIn.refl _ _ _⟩
 case round =>
  obtain ⟨k, z, hk, rfl, rfl, z0, z1, hnm, hkp⟩ := hrel
  by_cases hlt : k < l.length
  ·have ci : (k : Int) < (l.length : Int) := by omega
   have st := csz_take l k hlt
   have sl := csz_le l (k + 1)
   obtain ⟨f, β, hf, hgh, -⟩ := id hnm
   have hn1 : CM g hi l ((wr.setCell ⟨g, k * 3, none⟩ (.int .i64 (z : Int))).setCell ⟨g, k * 3 + 1, none⟩ (.int .i64 ((z : Int) + 1))) := (hnm.cell (i := 0) (by omega)).cell (i := 1) (by omega)
   have hk1 : KeptIn g hi w ((wr.setCell ⟨g, k * 3, none⟩ (.int .i64 (z : Int))).setCell ⟨g, k * 3 + 1, none⟩ (.int .i64 ((z : Int) + 1))) := (hkp.setCell (p := ⟨g, k * 3, none⟩) (Nat.le_refl _) hgh _).setCell (p := ⟨g, k * 3 + 1, none⟩) (Nat.le_refl _) hgh _
   have f0 := hf.frozen (k * 3)
   have f1 := hf.frozen (k * 3 + 1)
   obtain ⟨v0, g0⟩ : ∃ v, wr.cell? ⟨g, k * 3, none⟩ = some v := ⟨_, hf.cell (by omega)⟩
   obtain ⟨v1, g1⟩ : ∃ v, wr.cell? ⟨g, k * 3 + 1, none⟩ = some v := ⟨_, hf.cell (by omega)⟩
   obtain ⟨b, fb, a1, a3, a5, a7, a9⟩ := hn1.held hlt
   have KA := Hid.mk' (markByteS_row b (ckK l k).hd.length (ckK l k).hd.length (ckK l k).hd.length (z + 1 + 1) fb _ a7 (Nat.le_refl _) (by omega))
   have HA := Hid.mk' a9
   have HK := Hid.mk' hk1
   have hw1 : IntKind.i64.wrap ((z : Int) + 1) = (z : Int) + 1 := by rw [IntKind.wrap_i64]; omega
   have hw2 : IntKind.i64.wrap ((z : Int) + 1 + 1) = (z : Int) + 1 + 1 := by rw [IntKind.wrap_i64]; omega
   clear hn1 hk1 hnm hkp hf a7 a9
   generalize hV2 : (wr.setCell ⟨g, k * 3, none⟩ (.int .i64 (z : Int))).setCell ⟨g, k * 3 + 1, none⟩ (.int .i64 ((z : Int) + 1)) = V2 at *
   go_wp2_with fail
   clear hV2
   refine KA.out.mono ?_
   rintro e w2 ⟨rfl, hmr, hkk⟩
   have HN := Hid.mk' (HA.out w2 _ hkk hmr)
   have HK2 := Hid.mk' (HK.out.trans (hkk.mono (by omega) (by omega)))
   clear hmr hkk KA HA HK
   go_wp2
   go_roundw
   case rel => exact ⟨k + 1, z + 1 + 1 + (ckK l k).hd.length, by omega, by go_num, by congr 1, by omega, by omega, HN.out, HK2.out⟩
   case measure => simp [intOf]; omega
  ·have ci : ¬ (k : Int) < (l.length : Int) := by omega
   have e : k = l.length := by omega
   subst e
   rw [List.take_length] at z1
   have HK := Hid.mk' hkp
   clear hkp hnm
   go_wp2
   go_ret
   exact ⟨⟨z, rfl, z0, z1⟩, HK.out⟩
theorem mx_tm {lo gd gt gh gc : Nat} {m : ME} {w : World} (x : MX (fun wa wb => TW wa m.tk m.tk.length wb) lo gd gt gh gc m w) : ∃ hi, gt < hi ∧ hi ≤ gh ∧ TM gt hi m.tk w := by
 obtain ⟨wa, wb, e1, h1, h2, h4⟩ := x.t
 subst e1
 obtain ⟨hi, k1, k2, k3⟩ := h1.tm
 have := x.h.lt
 exact ⟨hi, k1, by omega, k3.keep (by omega) (fun q a b c => h4 q a c)⟩
theorem MX.tw {lo gd gt gh gc : Nat} {m : ME} {w : World} (x : MX (fun wa wb => TW wa m.tk m.tk.length wb) lo gd gt gh gc m w) : MX (fun wa wb => TR wa m.tk m.tk.length wb) lo gd gt gh gc m w :=
 ⟨x.d, by obtain ⟨wa, wb, e, h, r⟩ := x.t; exact ⟨wa, wb, e, h.tr, r⟩, x.h, x.c, x.o1, x.o2, x.o3, x.o4⟩
theorem toMemo_tw (m : ME) (a t u c : Option Addr) (ca ct ch cc : Nat) (w : World) (hm : MAt w a t u c m) (hl : (msz m : Int) ≤ 1048576) :
  Calls Tryz.prog 7 #[.agg #[.slice a m.dt.length ca, .int .i64 m.st, .slice t m.tk.length ct, .slice u m.hd.length ch, .slice c m.cs.length cc]] w fun e w' => ∃ gd gt gh gc, e = .returned (.agg #[.slice (some ⟨gd, 0, none⟩) m.dt.length m.dt.length, .int .i64 m.st, .slice (some ⟨gt, 0, none⟩) m.tk.length m.tk.length, .slice (some ⟨gh, 0, none⟩) m.hd.length m.hd.length, .slice (some ⟨gc, 0, none⟩) m.cs.length m.cs.length]) ∧ MX (fun wa wb => TW wa m.tk m.tk.length wb) w.heap.size gd gt gh gc m w' ∧ Below w.heap.size w w' := by
 have MS : (msz m : Int) = m.dt.length + m.tk.length + tssz m.tk + m.hd.length + m.cs.length + csz m.cs := by unfold msz; omega
 refine toMemo_gen (fun wa wb => TW wa m.tk m.tk.length wb) m a t u c ca ct ch cc w hm hl (fun v hv => (toTokenW t ct m.tk v hv (by omega)).mono ?_)
 rintro e v' ⟨rfl, h⟩
 exact ⟨rfl, h, h.bl⟩
theorem markMemo_hi (lo gd gt gh gc : Nat) (m : ME) (w : World) (x : MX (fun wa wb => TW wa m.tk m.tk.length wb) lo gd gt gh gc m w) (hi0 : Nat) (cm : CM gc hi0 m.cs w) (h0 : hi0 ≤ w.heap.size) (hm : (msz m : Int) ≤ 1048576) :
  Calls Tryz.prog 16 #[.agg #[.slice (some ⟨gd, 0, none⟩) m.dt.length m.dt.length, .int .i64 m.st, .slice (some ⟨gt, 0, none⟩) m.tk.length m.tk.length, .slice (some ⟨gh, 0, none⟩) m.hd.length m.hd.length, .slice (some ⟨gc, 0, none⟩) m.cs.length m.cs.length], .int .i64 1] w fun e w' => (∃ z : Nat, e = .returned (.int .i64 (z : Int)) ∧ 0 < z ∧ z ≤ 30000000) ∧ KeptIn lo hi0 w w' := by
 have MS_ : (msz m : Int) = m.dt.length + m.tk.length + tssz m.tk + m.hd.length + m.cs.length + csz m.cs := by unfold msz; omega
 have N0 := below_new w (.cells #[.slice (some ⟨gd, 0, none⟩) m.dt.length m.dt.length, .int .i64 m.st, .slice (some ⟨gt, 0, none⟩) m.tk.length m.tk.length, .slice (some ⟨gh, 0, none⟩) m.hd.length m.hd.length, .slice (some ⟨gc, 0, none⟩) m.cs.length m.cs.length] 34)
 have R0 := Hid.mk' (row5 w 34 (.slice (some ⟨gd, 0, none⟩) m.dt.length m.dt.length) (.int .i64 m.st) (.slice (some ⟨gt, 0, none⟩) m.tk.length m.tk.length) (.slice (some ⟨gh, 0, none⟩) m.hd.length m.hd.length) (.slice (some ⟨gc, 0, none⟩) m.cs.length m.cs.length))
 have X0 := x.below N0
 obtain ⟨hi, k1, k2, tm⟩ := mx_tm X0
 have o1 := x.o1
 have o2 := x.o2
 have o3 := x.o3
 have o4 := x.o4
 have lc : gc < hi0 := by obtain ⟨_, _, _, hf, _⟩ := cm; exact hf
 have lh := x.h.lt
 have CM0 := Hid.mk' (cm.keep (w' := w.alloc (.cells #[.slice (some ⟨gd, 0, none⟩) m.dt.length m.dt.length, .int .i64 m.st, .slice (some ⟨gt, 0, none⟩) m.tk.length m.tk.length, .slice (some ⟨gh, 0, none⟩) m.hd.length m.hd.length, .slice (some ⟨gc, 0, none⟩) m.cs.length m.cs.length] 34)) (fun q _ h => N0.block q (by omega)))
 have TM0 := Hid.mk' tm
 have RH0 := Hid.mk' X0.h
 have K0 : Hid (KeptIn lo hi0 w (w.alloc (.cells #[.slice (some ⟨gd, 0, none⟩) m.dt.length m.dt.length, .int .i64 m.st, .slice (some ⟨gt, 0, none⟩) m.tk.length m.tk.length, .slice (some ⟨gh, 0, none⟩) m.hd.length m.hd.length, .slice (some ⟨gc, 0, none⟩) m.cs.length m.cs.length] 34))) := Hid.mk' (KeptIn.of_below N0)
 have KD := Hid.mk' (markByteS_row gd m.dt.length m.dt.length m.dt.length 1 (bv m.dt) _ X0.d (Nat.le_refl _) (by omega))
 have sA : (m.dt.length : Int) ≤ 1048576 := by omega
 have sB : (m.tk.length : Int) + tssz m.tk ≤ 1048576 := by omega
 have sC : (m.hd.length : Int) ≤ 1048576 := by omega
 have sD : (m.cs.length : Int) + csz m.cs ≤ 1048576 := by omega
 clear MS_ hm
 clear N0 X0 tm cm x
 generalize hW : w.alloc (.cells #[.slice (some ⟨gd, 0, none⟩) m.dt.length m.dt.length, .int .i64 m.st, .slice (some ⟨gt, 0, none⟩) m.tk.length m.tk.length, .slice (some ⟨gh, 0, none⟩) m.hd.length m.hd.length, .slice (some ⟨gc, 0, none⟩) m.cs.length m.cs.length] 34) = W at *
 obtain ⟨x0, x1, x2, x3, x4, x5⟩ := cells5 R0.out
 go_enter Tryz.func16, Tryz.ntmps16
 go_wp2_with fail
 clear hW x0 x1 x2 x3 x4 x5
 obtain ⟨y9, hy9, hz9, hz9'⟩ : ∃ y9 : Nat, ((1 : Nat) : Int) + (m.dt.length : Int) = (y9 : Int) ∧ 0 < y9 ∧ y9 ≤ 1048577 := ⟨1 + m.dt.length, by omega, by omega, by omega⟩
 refine KD.out.mono ?_
 rintro e w1 ⟨he, -, hk1⟩
 rw [hy9] at he
 subst he
 have R1 := Hid.mk' (rowK R0.out hk1 (.inr (by omega)))
 have TM1 := Hid.mk' (TM0.out.keep hk1.size (fun q a b c => hk1.block q c (by omega)))
 have RH1 := Hid.mk' (rowK RH0.out hk1 (.inr (by omega)))
 have CM1 := Hid.mk' (CM0.out.keep (fun q a b => hk1.block q (by have := R0.out.lt; omega) (by omega)))
 have K1 := Hid.mk' (K0.out.trans (hk1.mono (by omega) (by omega)))
 clear hk1 KD K0 TM0 RH0 CM0 R0
 have KT := Hid.mk' (markTokenS_bd gt hi m.tk.length y9 m.tk w1 TM1.out (by omega) (by omega) (by omega))
 clear hy9
 obtain ⟨x0, x1, x2, x3, x4, x5⟩ := cells5 R1.out
 have tl := TM1.out.lt
 go_wp2_with fail
 clear x0 x1 x2 x3 x4 x5
 refine KT.out.mono ?_
 rintro e w2 ⟨⟨y, rfl, yp, yb⟩, hk2⟩
 have R2 := Hid.mk' (rowK R1.out hk2 (.inr (by omega)))
 have RH2 := Hid.mk' (rowK RH1.out hk2 (.inr (by omega)))
 have CM2 := Hid.mk' (CM1.out.keep (fun q a b => hk2.block q (by have := R1.out.lt; omega) (by omega)))
 have K2 := Hid.mk' (K1.out.trans (hk2.mono (by omega) (by omega)))
 clear hk2 KT K1 RH1 CM1 R1 TM1
 have KH := Hid.mk' (markByteS_row gh m.hd.length m.hd.length m.hd.length y (bv m.hd) w2 RH2.out (Nat.le_refl _) (by omega))
 obtain ⟨x0, x1, x2, x3, x4, x5⟩ := cells5 R2.out
 go_wp2_with fail
 clear x0 x1 x2 x3 x4 x5
 obtain ⟨y8, hy8, hz8, hz8'⟩ : ∃ y8 : Nat, (y : Int) + (m.hd.length : Int) = (y8 : Int) ∧ 0 < y8 ∧ y8 ≤ 20000000 := ⟨y + m.hd.length, by omega, by omega, by omega⟩
 refine KH.out.mono ?_
 rintro e w3 ⟨he, -, hk3⟩
 rw [hy8] at he
 subst he
 have R3 := Hid.mk' (rowK R2.out hk3 (.inr (by omega)))
 have CM3 := Hid.mk' (CM2.out.keep (fun q a b => hk3.block q (by have := R2.out.lt; omega) (by omega)))
 have K3 := Hid.mk' (K2.out.trans (hk3.mono (by omega) (by omega)))
 clear hk3 KH K2 RH2 CM2 R2
 have KC := Hid.mk' (markCheckS_bd gc hi0 m.cs.length y8 m.cs w3 CM3.out (by omega) (by omega) (by omega))
 clear hy8
 obtain ⟨x0, x1, x2, x3, x4, x5⟩ := cells5 R3.out
 go_wp2_with fail
 clear x0 x1 x2 x3 x4 x5
 refine KC.out.mono ?_
 rintro e w4 ⟨⟨z, rfl, zp, zb⟩, hk4⟩
 have K4 := Hid.mk' (K3.out.trans (hk4.mono (by omega) (Nat.le_refl _)))
 clear hk4 KC K3 CM3 R3
 go_wp2
 go_ret
 exact ⟨⟨z, rfl, zp, by omega⟩, K4.out⟩

end Go.Proofs.YtmhihkdnhaadeaaGreatDoor
