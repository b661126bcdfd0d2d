/- Marks in lists of nodes of one's own. -/
import Derived.Test.YtcjnfodkppcpoaaDoorXV3
import Derived.Test.YtcjnfodkppcpoaaDoorXV5
namespace Go.Proofs.YtcjnfodkppcpoaaDoor
open Go.RowKit
set_option linter.unusedVariables false
set_option linter.unusedSimpArgs false

set_option maxHeartbeats 3200000 in
theorem markAttrS_gen (g hi c z : Nat) (l : List AT) (w : World) (h : MR g hi l w) (hhi : hi ≤ w.heap.size) (hl : (l.length : Int) + asz l ≤ 1048576) (z0 : 0 < z) (z1 : z ≤ 10000000) :
    Calls Tryd.prog 30 #[.slice (some ⟨g, 0, none⟩) l.length c, .int .i64 (z : Int)] w fun e w' => e = .returned (.int .i64 ((z : Int) + (l.length : Int) + (vsz l : Int))) ∧ MR g hi l w' ∧ KeptIn g hi w w' := by
  have HM := Hid.mk' h
  clear h
  go_enter Tryd.func30, Tryd.ntmps30
  go_wp2
  go_loopw [1, 5] (fun x i wr => ∃ k : Nat, k ≤ l.length ∧ i = .int .i64 k ∧ x = .int .i64 ((z + k + vsz (l.take k) : Nat) : Int) ∧ MR g hi l wr ∧ KeptIn g hi w wr) (fun _ i _ => l.length - (intOf i).toNat)
  case atStart => exact ⟨0, Nat.zero_le _, rfl, by simp [vsz], HM.out, KeptIn.refl _ _ _⟩
  case round =>
    obtain ⟨k, hk, rfl, rfl, hmr, hkp⟩ := hrel
    have HR := Hid.mk' hmr
    have HK := Hid.mk' hkp
    clear hmr hkp
    by_cases hlt : k < l.length
    · have ci : (k : Int) < (l.length : Int) := by omega
      have st := vsz_take l k hlt
      have sl := vsz_le l (k + 1)
      obtain ⟨q, hq⟩ : ∃ q : Nat, z + k + vsz (l.take k) = q := ⟨_, rfl⟩
      have hq1 : z + (k + 1) + vsz (l.take (k + 1)) = q + 1 + (atK l k).vl.length := by omega
      have hq2 : q + 1 + (atK l k).vl.length ≤ 100000000 := by omega
      have Q1 := Hid.mk' hq1
      have KT := Hid.mk' (markText_any q wr (by omega) (by omega))
      rw [hq]
      clear st sl hq hq1
      go_wp2_with fail
      refine KT.out.mono ?_
      rintro e w1 ⟨s, rfl, hb⟩
      have hm1 := HR.out.below hb
      have HK1 := Hid.mk' (HK.out.trans (KeptIn.of_below hb))
      obtain ⟨f, hf, _, _⟩ := id hm1
      have f0 := hf.frozen (k * 2)
      obtain ⟨v0, g0⟩ : ∃ v, w1.cell? ⟨g, k * 2, none⟩ = some v := ⟨_, hf.cell (by omega)⟩
      have hm2 := hm1.name hlt s
      obtain ⟨f2, hf2, hgh, hj2⟩ := id hm2
      obtain ⟨_, b, h2, h3, h4, fb, h5⟩ := hj2 k hlt
      have c2 : (w1.setCell ⟨g, k * 2, none⟩ (.string s)).cell? ⟨g, k * 2 + 1, none⟩ = some (.slice (some ⟨b, 0, none⟩) (atK l k).vl.length (atK l k).vl.length) := by
        have := hf2.cell (show k * 2 + 1 < l.length * 2 by omega)
        rw [this, h2]
      have KB := Hid.mk' (markByteS_row b (atK l k).vl.length (atK l k).vl.length (atK l k).vl.length (q + 1) fb _ h5 (Nat.le_refl _) (by omega))
      have HK2 := Hid.mk' (HK1.out.setCell (p := ⟨g, k * 2, none⟩) (Nat.le_refl _) hgh (.string s))
      have M2 := Hid.mk' hm2
      have H5 := Hid.mk' h5
      clear hm1 hm2 hf hf2 hj2 h5 hb KT HR HK HK1
      generalize hV : w1.setCell ⟨g, k * 2, none⟩ (.string s) = V at *
      go_wp2_with fail
      clear hV
      refine KB.out.mono ?_
      rintro e w2 ⟨rfl, hr, hkk⟩
      have M3 := Hid.mk' (M2.out.value h3 h4 hr H5.out hkk)
      have HK3 := Hid.mk' (HK2.out.trans (hkk.mono (by omega) (by omega)))
      clear hr hkk KB M2 H5 HK2
      go_wp2
      go_roundw
      case rel => exact ⟨k + 1, by omega, by go_num, by rw [Q1.out]; simp, M3.out, HK3.out⟩
      case measure => simp [intOf]; omega
    · have ci : ¬ (k : Int) < (l.length : Int) := by omega
      have e : k = l.length := by omega
      subst e
      go_wp2
      go_ret
      exact ⟨by simp, HR.out, HK.out⟩

/-- What lies from g on and below hi stays. -/
theorem MR.keep {hi g : Nat} {l : List AT} {w w' : World} (h : MR g hi l w) (hk : ∀ k, g ≤ k → k < hi → k < w.heap.size → w'.heap[k]? = w.heap[k]?) : MR g hi l w' := by
  obtain ⟨f, hf, hg, hj⟩ := h
  refine ⟨f, hf.of_block (hk g (Nat.le_refl _) hg hf.lt), hg, fun j hl => ?_⟩
  obtain ⟨h1, b, h2, h3, h4, fb, h5⟩ := hj j hl
  exact ⟨h1, b, h2, h3, h4, fb, h5.of_block (hk b (by omega) h4 h5.lt)⟩

theorem MR.lt {hi g : Nat} {l : List AT} {w : World} (h : MR g hi l w) : g < hi := by obtain ⟨_, _, h, _⟩ := h; exact h

theorem AOh.mr {hi g : Nat} {l : List AT} {w : World} (h : AOh hi g l w) : MR g hi l w := by
  obtain ⟨f, hf, hg, hj⟩ := h
  refine ⟨f, hf, hg, fun j hl => ?_⟩
  obtain ⟨h1, b, h2, h3, h4, h5⟩ := hj j hl
  exact ⟨⟨_, h1⟩, b, h2, h3, h4, _, h5⟩

/-- A node of one's own, whatever it holds; its rows lie from lo on and below hi. -/
def MO (lo hi : Nat) (t : ND) (f : Nat → Value) (j : Nat) (w : World) : Prop :=
  (∃ u, f (j * 4) = .int .i64 u) ∧ (∃ s, f (j * 4 + 1) = .string s) ∧ ∃ g b, f (j * 4 + 2) = .slice (some ⟨g, 0, none⟩) t.at_.length t.at_.length ∧ f (j * 4 + 3) = .slice (some ⟨b, 0, none⟩) t.tx.length t.tx.length ∧ lo ≤ g ∧ b < hi ∧ MR g b t.at_ w ∧ ∃ fb, w.rowIs b 5 t.tx.length fb

theorem MO.keep {lo hi : Nat} {t : ND} {f f' : Nat → Value} {j : Nat} {w w' : World} (h : MO lo hi t f j w) (hf : ∀ i, i < 4 → f' (j * 4 + i) = f (j * 4 + i)) (hk : ∀ k, lo ≤ k → k < hi → k < w.heap.size → w'.heap[k]? = w.heap[k]?) : MO lo hi t f' j w' := by
  obtain ⟨⟨u, h1⟩, ⟨s, h2⟩, g, b, h3, h4, h5, h6, h7, fb, h8⟩ := h
  have hl := h7.lt
  exact ⟨⟨u, (hf 0 (by omega)).trans h1⟩, ⟨s, (hf 1 (by omega)).trans h2⟩, g, b, (hf 2 (by omega)).trans h3, (hf 3 (by omega)).trans h4, h5, h6, h7.keep (fun k a c d => hk k (by omega) (by omega) d), fb, h8.of_block (hk b (by omega) h6 h8.lt)⟩

/-- Nodes of one's own at g, whatever they hold; hi: behind all their rows. -/
def NM (g hi : Nat) (l : List ND) (w : World) : Prop := ∃ (f : Nat → Value) (s : Nat → Nat), w.rowIs g 49 (l.length * 4) f ∧ g < s 0 ∧ s l.length = hi ∧ hi ≤ w.heap.size ∧ (∀ j, j < l.length → s j ≤ s (j + 1)) ∧ ∀ j, j < l.length → MO (s j) (s (j + 1)) (ndK l j) f j w

theorem NR.nm {w wr : World} {l : List ND} (h : NR w l l.length wr) : ∃ hi, w.heap.size < hi ∧ hi ≤ wr.heap.size ∧ NM w.heap.size hi l wr := by
  obtain ⟨f, s, hf, h0, h1, h2, hj⟩ := h.row
  refine ⟨s l.length, Nat.lt_of_lt_of_le h0 (mono_s h2 _ (Nat.le_refl _)), h1, f, s, hf, h0, rfl, h1, h2, fun j hl => ?_⟩
  obtain ⟨e1, e2, g, b, e3, e4, h5, h6, h7, h8⟩ := hj j hl
  exact ⟨⟨_, e1⟩, ⟨_, e2⟩, g, b, e3, e4, h5, h6, h7.mr, _, h8⟩

theorem mono_s2 {s : Nat → Nat} {n : Nat} (h : ∀ j, j < n → s j ≤ s (j + 1)) {i : Nat} : ∀ j, i ≤ j → j ≤ n → s i ≤ s j
  | 0, hi, _ => by have : i = 0 := by omega
                   subst this; exact Nat.le_refl _
  | j + 1, hi, hj => by
    by_cases e : i = j + 1
    · subst e; exact Nat.le_refl _
    · exact Nat.le_trans (mono_s2 h j (by omega) (by omega)) (h j (by omega))

/-- What is below the nodes or behind them may turn. -/
theorem NM.keep {g hi : Nat} {l : List ND} {w w' : World} (h : NM g hi l w) (hs : w.heap.size ≤ w'.heap.size) (hk : ∀ k, g ≤ k → k < hi → k < w.heap.size → w'.heap[k]? = w.heap[k]?) : NM g hi l w' := by
  obtain ⟨f, s, hf, h0, h1, h2, h3, hj⟩ := h
  have m0 := mono_s2 h3 (i := 0) l.length (by omega) (Nat.le_refl _)
  refine ⟨f, s, hf.of_block (hk g (Nat.le_refl _) (by omega) hf.lt), h0, h1, Nat.le_trans h2 hs, h3, fun j hl => (hj j hl).keep (fun _ _ => rfl) (fun i a c d => ?_)⟩
  have m1 := mono_s2 h3 (i := 0) j (by omega) (by omega)
  have m2 := mono_s2 h3 (i := j + 1) l.length (by omega) (Nat.le_refl _)
  exact hk i (by omega) (by omega) d

/-- A cell of the row of nodes is turned, that holds a number or a text. -/
theorem NM.cell {g hi k i : Nat} {l : List ND} {w : World} {v : Value} (h : NM g hi l w) (hk : k < l.length) (hi2 : i < 2) (hv : (i = 0 ∧ ∃ u, v = .int .i64 u) ∨ (i = 1 ∧ ∃ s, v = .string s)) : NM g hi l (w.setCell ⟨g, k * 4 + i, none⟩ v) := by
  obtain ⟨f, s, hf, h0, h1, h2, h3, hj⟩ := h
  have K : KeptIn g (g + 1) w (w.setCell ⟨g, k * 4 + i, none⟩ v) := (KeptIn.refl _ _ w).setCell (p := ⟨g, k * 4 + i, none⟩) (Nat.le_refl _) (Nat.lt_succ_self _) _
  refine ⟨_, s, hf.set (k * 4 + i) v, h0, h1, by simpa [World.setCell] using h2, h3, fun j hl => ?_⟩
  have m1 := mono_s2 h3 (i := 0) j (by omega) (by omega)
  have kp : ∀ q, s j ≤ q → q < s (j + 1) → q < w.heap.size → (w.setCell ⟨g, k * 4 + i, none⟩ v).heap[q]? = w.heap[q]? := fun q a c d => K.block q d (by omega)
  by_cases e : j = k
  · subst e
    obtain ⟨⟨u, e1⟩, ⟨s', e2⟩, g', b, e3, e4, h5, h6, h7, fb, h8⟩ := hj j hl
    have hlt := h7.lt
    refine ⟨?_, ?_, g', b, ?_, ?_, h5, h6, h7.keep (fun q a c d => kp q (by omega) (by omega) d), fb, h8.of_block (kp b (by omega) h6 h8.lt)⟩
    · rcases hv with ⟨rfl, u', rfl⟩ | ⟨rfl, s'', rfl⟩
      · exact ⟨u', by dsimp only; rw [if_pos (by omega)]⟩
      · exact ⟨u, by dsimp only; rw [if_neg (by omega)]; exact e1⟩
    · rcases hv with ⟨rfl, u', rfl⟩ | ⟨rfl, s'', rfl⟩
      · exact ⟨s', by dsimp only; rw [if_neg (by omega)]; exact e2⟩
      · exact ⟨s'', by dsimp only; rw [if_pos rfl]⟩
    · dsimp only; rw [if_neg (by omega)]; exact e3
    · dsimp only; rw [if_neg (by omega)]; exact e4
  · exact (hj j hl).keep (fun q hq => by rw [if_neg (by omega)]) kp

/-- The attributes of one node are marked. -/
theorem NM.attrs {g hi k : Nat} {l : List ND} {w : World} (h : NM g hi l w) (hk : k < l.length) : ∃ ga b, w.cell? ⟨g, k * 4 + 2, none⟩ = some (.slice (some ⟨ga, 0, none⟩) (ndK l k).at_.length (ndK l k).at_.length) ∧ w.cell? ⟨g, k * 4 + 3, none⟩ = some (.slice (some ⟨b, 0, none⟩) (ndK l k).tx.length (ndK l k).tx.length) ∧ g < ga ∧ ga < b ∧ b < hi ∧ hi ≤ w.heap.size ∧ MR ga b (ndK l k).at_ w ∧ (∃ fb, w.rowIs b 5 (ndK l k).tx.length fb) ∧
    (∀ w', KeptIn ga b w w' → MR ga b (ndK l k).at_ w' → NM g hi l w') ∧ (∀ w' fb', KeptIn b (b + 1) w w' → w'.rowIs b 5 (ndK l k).tx.length fb' → NM g hi l w') := by
  obtain ⟨f, s, hf, h0, h1, h2, h3, hj⟩ := h
  obtain ⟨e1, e2, ga, b, e3, e4, h5, h6, h7, fb, h8⟩ := hj k hk
  have hlt := h7.lt
  have m0 := mono_s2 h3 (i := 0) k (by omega) (by omega)
  have m2 := mono_s2 h3 (i := k + 1) l.length (by omega) (Nat.le_refl _)
  have others : ∀ (w' : World) (lo' hi' : Nat), KeptIn lo' hi' w w' → s k ≤ lo' → hi' ≤ s (k + 1) → ∀ j, j < l.length → ¬ j = k → MO (s j) (s (j + 1)) (ndK l j) f j w' := fun w' lo' hi' K a c j hl hne =>
    (hj j hl).keep (fun _ _ => rfl) (fun q x y z => K.block q z (by
      rcases Nat.lt_or_gt_of_ne hne with hlt' | hgt
      · have := mono_s2 h3 (i := j + 1) k (by omega) (by omega); omega
      · have := mono_s2 h3 (i := k + 1) j (by omega) (by omega); omega))
  refine ⟨ga, b, by rw [hf.cell (by omega), e3], by rw [hf.cell (by omega), e4], by omega, hlt, by omega, h2, h7, ⟨fb, h8⟩, fun w' K hM => ?_, fun w' fb' K hR => ?_⟩
  · refine ⟨f, s, rowK hf K (.inl (by omega)), h0, h1, Nat.le_trans h2 K.size, h3, fun j hl => ?_⟩
    by_cases e : j = k
    · subst e
      exact ⟨e1, e2, ga, b, e3, e4, h5, h6, hM, fb, rowK h8 K (.inr (Nat.le_refl _))⟩
    · exact others w' ga b K h5 (by omega) j hl e
  · refine ⟨f, s, rowK hf K (.inl (by omega)), h0, h1, Nat.le_trans h2 K.size, h3, fun j hl => ?_⟩
    by_cases e : j = k
    · subst e
      exact ⟨e1, e2, ga, b, e3, e4, h5, h6, h7.keep (fun q x y z => K.block q z (by omega)), fb', hR⟩
    · exact others w' b (b + 1) K (by omega) (by omega) j hl e

theorem vsz_asz (l : List AT) : vsz l ≤ asz l := by have := vsz_le l l.length; rwa [List.take_length] at this

set_option maxHeartbeats 3200000 in
theorem markNodeS_any (g hi c : Nat) (l : List ND) (w : World) (h : NM g hi l w) (hl : (l.length : Int) + nssz l ≤ 1048576) :
    Calls Tryd.prog 12 #[.slice (some ⟨g, 0, none⟩) l.length c, .int .i64 1] w fun e w' => (∃ z : Nat, e = .returned (.int .i64 (z : Int))) ∧ KeptIn g hi w w' := by
  have HM := Hid.mk' h
  clear h
  go_enter Tryd.func12, Tryd.ntmps12
  go_wp2
  go_loopw [1, 5] (fun x i wr => ∃ k z : Nat, k ≤ l.length ∧ i = .int .i64 k ∧ x = .int .i64 (z : Int) ∧ 0 < z ∧ z ≤ 1 + 2 * k + nssz (l.take k) ∧ NM g hi l wr ∧ KeptIn g hi w wr) (fun _ i _ => l.length - (intOf i).toNat)
  case atStart => exact ⟨0, 1, Nat.zero_le _, rfl, rfl, by omega, by omega, HM.out, KeptIn.refl _ _ _⟩
  case round =>
    obtain ⟨k, z, hk, rfl, rfl, z0, z1, hnm, hkp⟩ := hrel
    by_cases hlt : k < l.length
    · have ci : (k : Int) < (l.length : Int) := by omega
      have st := nssz_take l k hlt
      have sl := nssz_le l (k + 1)
      unfold nsz at st
      have vz := vsz_asz (ndK l k).at_
      have gh : g < hi := by obtain ⟨f, s, _, h0, h1, _, h3, _⟩ := hnm; have := mono_s2 h3 (i := 0) l.length (by omega) (Nat.le_refl _); omega
      have hn1 : NM g hi l (wr.setCell ⟨g, k * 4, none⟩ (.int .i64 (z : Int))) := hnm.cell (i := 0) hlt (by omega) (.inl ⟨rfl, _, rfl⟩)
      have hk1 : KeptIn g hi w (wr.setCell ⟨g, k * 4, none⟩ (.int .i64 (z : Int))) := hkp.setCell (p := ⟨g, k * 4, none⟩) (Nat.le_refl _) gh _
      obtain ⟨f, _, hf, _⟩ := id hnm
      have f0 := hf.frozen (k * 4)
      obtain ⟨v0, g0⟩ : ∃ v, wr.cell? ⟨g, k * 4, none⟩ = some v := ⟨_, hf.cell (by omega)⟩
      have HN := Hid.mk' hn1
      have HK := Hid.mk' hk1
      have KT := Hid.mk' (markText_any (z + 1) (wr.setCell ⟨g, k * 4, none⟩ (.int .i64 (z : Int))) (by omega) (by omega))
      clear hn1 hk1 hnm hkp hf
      generalize hV : wr.setCell ⟨g, k * 4, none⟩ (.int .i64 (z : Int)) = V at *
      go_wp2_with fail
      clear hV
      refine KT.out.mono ?_
      rintro e w1 ⟨sx, rfl, hb⟩
      have hn2 := HN.out.keep hb.size (fun q _ _ hq => hb.block q hq)
      have hn3 : NM g hi l (w1.setCell ⟨g, k * 4 + 1, none⟩ (.string sx)) := hn2.cell (i := 1) hlt (by omega) (.inr ⟨rfl, _, rfl⟩)
      have hk3 : KeptIn g hi w (w1.setCell ⟨g, k * 4 + 1, none⟩ (.string sx)) := (HK.out.trans (KeptIn.of_below hb)).setCell (p := ⟨g, k * 4 + 1, none⟩) (Nat.le_refl _) gh _
      obtain ⟨f2, _, hf2, _⟩ := id hn2
      have f1 := hf2.frozen (k * 4 + 1)
      obtain ⟨v1, g1⟩ : ∃ v, w1.cell? ⟨g, k * 4 + 1, none⟩ = some v := ⟨_, hf2.cell (by omega)⟩
      obtain ⟨ga, b, a1, a2, a3, a4, a5, a6, a7, _, a9, _⟩ := hn3.attrs hlt
      have KA := Hid.mk' (markAttrS_gen ga b (ndK l k).at_.length (z + 1 + 1) (ndK l k).at_ _ a7 (by omega) (by omega) (by omega) (by omega))
      have HA := Hid.mk' a9
      have HK := Hid.mk' hk3
      clear hn2 hn3 hk3 hf2 hb KT HN a7 a9
      generalize hV2 : w1.setCell ⟨g, k * 4 + 1, none⟩ (.string sx) = V2 at *
      go_wp2_with fail
      clear hV2
      refine KA.out.mono ?_
      rintro e w2 ⟨rfl, hmr, hkk⟩
      have hn4 := HA.out w2 hkk hmr
      have HK := Hid.mk' (HK.out.trans (hkk.mono (by omega) (by omega)))
      obtain ⟨ga2, b2, c1, c2, c3, c4, c5, c6, c7, ⟨fb, c8⟩, _, c10⟩ := hn4.attrs hlt
      obtain ⟨z2, hz2⟩ : ∃ z2 : Nat, z + 1 + 1 + (ndK l k).at_.length + vsz (ndK l k).at_ = z2 := ⟨_, rfl⟩
      have KB := Hid.mk' (markByteS_row b2 (ndK l k).tx.length (ndK l k).tx.length (ndK l k).tx.length z2 fb w2 c8 (Nat.le_refl _) (by omega))
      have H10 := Hid.mk' c10
      have ez : ((z + 1 + 1 : Nat) : Int) + ((ndK l k).at_.length : Int) + (vsz (ndK l k).at_ : Int) = (z2 : Int) := by omega
      rw [ez]
      clear hkk hmr KA HA c7 c8 c10 hn4 ez a1 a2
      go_wp2_with fail
      refine KB.out.mono ?_
      rintro e w3 ⟨rfl, hr, hkk⟩
      have N5 := Hid.mk' (H10.out w3 _ hkk hr)
      have HK := Hid.mk' (HK.out.trans (hkk.mono (by omega) (by omega)))
      clear hkk hr KB H10
      go_wp2
      go_roundw
      case rel => exact ⟨k + 1, z2 + (ndK l k).tx.length, by omega, by go_num, by congr 1, by omega, by omega, N5.out, HK.out⟩
      case measure => simp [intOf]; omega
    · have ci : ¬ (k : Int) < (l.length : Int) := by omega
      have HK := Hid.mk' hkp
      clear hnm hkp
      go_wp2
      go_ret
      exact ⟨⟨z, rfl⟩, HK.out⟩

end Go.Proofs.YtcjnfodkppcpoaaDoor
