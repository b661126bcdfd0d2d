/- SpanOf, the model's side. -/
import Derived.Test.YtcjnfodkppcpoaaDoorXUp
namespace Go.Proofs.YtcjnfodkppcpoaaDoor
open Go.RowKit Go.Maps
set_option linter.unusedVariables false
set_option linter.unusedSimpArgs false

/-- What SpanOf answers. -/
def spC (l : List ND) (x : Int) : Int := if (wtF l).1 = 0 then (if 0 ≤ x ∧ x < (l.length : Int) then 0 else 3) else (wtF l).1
def spA (l : List ND) (x : Int) : Int := if spC l x = 0 then (frm l x.toNat : Int) else 0
def spB (l : List ND) (x : Int) : Int := if spC l x = 0 then ((nT l x.toNat).length : Int) else 0

theorem wt_good {l : List ND} (h : (wtF l).1 = 0) : Good l ∧ (aT l).length ≤ 240 := by
  unfold wtF at h
  split at h
  · rename_i h0
    split at h
    · rename_i h1
      refine ⟨⟨h0, h1⟩, Nat.le_of_not_lt fun hc => ?_⟩
      rw [ansT_big hc] at h
      exact absurd h (by decide)
    · contradiction
  · contradiction

theorem Seg.part {l : List ND} (hw : Ways l l.length) (f : Nat × Bool → List UInt8) : ∀ (m c i j k : Nat), j - i ≤ m → Seg l c i j → i ≤ k → k < j → (tx f (endN l) k (endN l k)).length ≤ (tx f (endN l) i j).length
  | 0, c, i, j, k, hm, h, h1, h2 => by omega
  | m + 1, c, i, j, k, hm, h, h1, h2 => by
    have hij : i < j := by omega
    obtain ⟨f1, f2⟩ := h.fst hij
    rw [tx_cons hij f1 f2, List.length_append]
    by_cases e : k = i
    · subst e; omega
    · by_cases c1 : k < endN l i
      · have := Seg.part hw f m (c + 1) (i + 1) (endN l i) k (by omega) (h.sub hw hij) (by omega) c1
        rw [tx_one f1, List.length_append, List.length_append]
        omega
      · have := Seg.part hw f m c (endN l i) j k (by omega) (h.next hij) (by omega) h2
        omega

theorem nT_le {l : List ND} (G : Good l) {k : Nat} (hk : k < l.length) : (nT l k).length ≤ (aT l).length :=
  Seg.part (treeF_ways G.tree) (egE l) (l.length - 0) 0 0 l.length k (Nat.le_refl _) (Seg.top (treeF_ways G.tree)) (Nat.zero_le _) hk

/-- A box of three cells. -/
def q3 (x y z : Value) (i : Nat) : Value := if i = 0 then x else if i = 1 then y else z
theorem rowQ3 (w : World) (t : TypeId) (x y z : Value) : (w.alloc (.cells #[x, y, z] t)).rowIs w.heap.size t 3 (q3 x y z) :=
  ⟨#[x, y, z], World.alloc_heap_new w _, rfl, fun i hi => by
    rcases (show i = 0 ∨ i = 1 ∨ i = 2 by omega) with h | h | h <;> subst h <;> rfl⟩
theorem cellsQ3 {w : World} {g : Nat} {ty : TypeId} {x y z : Value} (h : w.rowIs g ty 3 (q3 x y z)) : w.cell? ⟨g, 0, none⟩ = some x ∧ w.cell? ⟨g, 1, none⟩ = some y ∧ w.cell? ⟨g, 2, none⟩ = some z ∧ g < w.heap.size :=
  ⟨h.cell (i := 0) (by omega), h.cell (i := 1) (by omega), h.cell (i := 2) (by omega), h.lt⟩
theorem frzQ3 {w : World} {g : Nat} {T : TypeId} {f : Nat → Value} (h : w.rowIs g T 3 f) : w.frozen? ⟨g, 0, none⟩ = false ∧ w.frozen? ⟨g, 1, none⟩ = false ∧ w.frozen? ⟨g, 2, none⟩ = false := ⟨h.frozen 0, h.frozen 1, h.frozen 2⟩

set_option maxRecDepth 100000 in
set_option maxHeartbeats 3200000 in
theorem specSP_any (a : Option Addr) (c : Nat) (l : List ND) (x : Int) (w : World) (ha : NsAt w a l) (hB : NB l) (hl : (l.length : Int) + nssz l ≤ 1048576) :
    Calls Tryd.prog 17 #[.slice a l.length c, .int .i64 x] w fun e w' => e = .returned (.agg #[.int .i64 (spC l x), .int .i64 (spA l x), .int .i64 (spB l x)]) ∧ Below w.heap.size w w' := by
  have N0 := below_new w (.cells #[.int .i64 0, .int .i64 0, .int .i64 0] 38)
  have HB0 := Hid.mk' N0
  have HR := Hid.mk' (rowQ3 w 38 (.int .i64 0) (.int .i64 0) (.int .i64 0))
  have KA := Hid.mk' (specWR_any a c l _ (ha.below N0) hB hl)
  have HA := Hid.mk' ha
  have HNB := Hid.mk' hB
  obtain ⟨CC, KK, hCK⟩ : ∃ CC KK, (CC, KK) = wtF l := ⟨_, _, rfl⟩
  rw [← hCK] at KA
  have HCK := Hid.mk' hCK
  clear ha hB N0 hCK
  generalize hW : w.alloc (.cells #[.int .i64 0, .int .i64 0, .int .i64 0] 38) = W at *
  go_enter Tryd.func17, Tryd.ntmps17
  go_wp2_with fail
  clear hW
  refine KA.out.mono ?_
  rintro e w1 ⟨v, c', rfl, hat, hfa, hfr, hb1⟩
  have N2 := below_new w1 (.cells #[.int .i64 CC, .slice v KK.length c'] 26)
  have B2 := hb1.trans (N2.mono hb1.size)
  have HB := Hid.mk' (HB0.out.trans (B2.mono HB0.out.size))
  have HR2 := Hid.mk' (rowB HR.out B2)
  have RT := rowQ2 w1 26 (.int .i64 CC) (.slice v KK.length c')
  clear hb1 N2 B2 KA hat hfa hfr
  dsimp only at *
  generalize hW2 : w1.alloc (.cells #[.int .i64 CC, .slice v KK.length c'] 26) = W2 at *
  obtain ⟨t0, t1, t2⟩ := cellsQ2 RT
  by_cases h0 : CC = 0
  rotate_left
  · have hc0 : ¬ (wtF l).1 = 0 := by rw [← HCK.out]; exact h0
    have E : Hid (spC l x = CC ∧ spA l x = 0 ∧ spB l x = 0) := Hid.mk' (by
      have e1 : spC l x = CC := by unfold spC; rw [if_neg hc0, ← HCK.out]
      exact ⟨e1, by unfold spA; rw [if_neg (by rw [e1]; exact h0)], by unfold spB; rw [if_neg (by rw [e1]; exact h0)]⟩)
    have h0b : (CC != 0) = true := by simp [h0]
    obtain ⟨y0, y1, y2, y3⟩ := cellsQ3 HR2.out
    obtain ⟨f0, f1, f2⟩ := frzQ3 HR2.out
    clear hc0 h0
    go_wp2_with fail
    refine bodyPost_ret (v := .agg #[.int .i64 CC, .int .i64 0, .int .i64 0]) (by simp [results, Tryd.results17, go_sem, *]) rfl ?_
    exact ⟨by rw [E.out.1, E.out.2.1, E.out.2.2], ((HB.out.setCell (p := ⟨w.heap.size, 0, none⟩) (by simp) _).setCell (p := ⟨w.heap.size, 1, none⟩) (by simp) _).setCell (p := ⟨w.heap.size, 2, none⟩) (by simp) _⟩
  subst h0
  have hc0 : (wtF l).1 = 0 := by rw [← HCK.out]
  obtain ⟨G, _⟩ := wt_good hc0
  have h60 := treeF_len G.tree
  have KI := Hid.mk' (l1In_any x 0 ((l.length : Int) - 1) W2)
  have ew : wrap64 ((l.length : Int) - 1) = (l.length : Int) - 1 := by unfold wrap64; omega
  have HG := Hid.mk' G
  have HC0 := Hid.mk' hc0
  clear G hc0
  go_wp2_with fail
  clear hW2
  refine KI.out.mono ?_
  rintro e w3 ⟨rfl, hw3⟩
  obtain rfl := hw3.symm
  clear KI t0 t1 t2 RT
  by_cases hin : 0 ≤ x ∧ x < (l.length : Int)
  rotate_left
  · have E : Hid (spC l x = 3 ∧ spA l x = 0 ∧ spB l x = 0) := Hid.mk' (by
      have e1 : spC l x = 3 := by unfold spC; rw [if_pos HC0.out, if_neg hin]
      exact ⟨e1, by unfold spA; rw [if_neg (by rw [e1]; decide)], by unfold spB; rw [if_neg (by rw [e1]; decide)]⟩)
    have hd : (decide (0 ≤ x) && decide (x ≤ (l.length : Int) - 1)) = false := by
      cases hq : (decide (0 ≤ x) && decide (x ≤ (l.length : Int) - 1)) with
      | false => rfl
      | true =>
        simp only [Bool.and_eq_true, decide_eq_true_eq] at hq
        exact absurd ⟨hq.1, by omega⟩ hin
    rw [hd]
    obtain ⟨y0, y1, y2, y3⟩ := cellsQ3 HR2.out
    obtain ⟨f0, f1, f2⟩ := frzQ3 HR2.out
    clear hin hd
    go_wp2_with fail
    refine bodyPost_ret (v := .agg #[.int .i64 3, .int .i64 0, .int .i64 0]) (by simp [results, Tryd.results17, go_sem, *]) rfl ?_
    exact ⟨by rw [E.out.1, E.out.2.1, E.out.2.2], ((HB.out.setCell (p := ⟨w.heap.size, 0, none⟩) (by simp) _).setCell (p := ⟨w.heap.size, 1, none⟩) (by simp) _).setCell (p := ⟨w.heap.size, 2, none⟩) (by simp) _⟩
  have hd : (decide (0 ≤ x) && decide (x ≤ (l.length : Int) - 1)) = true := by
    simp only [Bool.and_eq_true, decide_eq_true_eq]
    exact ⟨hin.1, by omega⟩
  rw [hd]
  obtain ⟨m, rfl⟩ : ∃ m : Nat, x = (m : Int) := ⟨x.toNat, by omega⟩
  have hm : m < l.length := by omega
  have E : Hid (spC l (m : Int) = 0 ∧ spA l (m : Int) = (frm l m : Int) ∧ spB l (m : Int) = ((nT l m).length : Int)) := Hid.mk' (by
    have e1 : spC l (m : Int) = 0 := by unfold spC; rw [if_pos HC0.out, if_pos hin]
    exact ⟨e1, by unfold spA; rw [if_pos e1, Int.toNat_natCast], by unfold spB; rw [if_pos e1, Int.toNat_natCast]⟩)
  have KF := Hid.mk' (l10From_any a c l HG.out HNB.out hl m W2 hm (HA.out.below HB.out))
  have KW : Hid (∀ w', Below W2.heap.size W2 w' → Calls Tryd.prog 36 #[.slice a l.length c, .int .i64 (m : Int)] w' fun e w'' => e = .returned (.string ⟨(nT l m).toArray⟩) ∧ Below w'.heap.size w' w'') := Hid.mk' (fun w' hb => l10Write_any a c l HG.out HNB.out hl (l.length - m) m w' rfl hm (HA.out.below (HB.out.trans (hb.mono HB.out.size))))
  clear hd hin HG HC0
  generalize nT l m = T at *
  generalize frm l m = fr at *
  have hts : ((⟨T.toArray⟩ : ByteArray).size : Int) = (T.length : Int) := by simp [ByteArray.size]
  go_wp2_with fail
  refine KF.out.mono ?_
  rintro e w5 ⟨rfl, hb5⟩
  have KW1 := Hid.mk' (KW.out w5 hb5)
  have HB5 := Hid.mk' hb5
  clear KF KW hb5
  go_wp2_with fail
  refine KW1.out.mono ?_
  rintro e w6 ⟨rfl, hb6⟩
  have B6 := HB5.out.trans (hb6.mono HB5.out.size)
  have HB6 := Hid.mk' (HB.out.trans (B6.mono HB.out.size))
  obtain ⟨y0, y1, y2, y3⟩ := cellsQ3 (rowB HR2.out B6)
  obtain ⟨f0, f1, f2⟩ := frzQ3 (rowB HR2.out B6)
  clear KW1 hb6 B6 HB5
  go_wp2
  refine bodyPost_ret (v := .agg #[.int .i64 0, .int .i64 (fr : Int), .int .i64 (T.length : Int)]) (by simp [results, Tryd.results17, go_sem, *]) rfl ?_
  exact ⟨by rw [E.out.1, E.out.2.1, E.out.2.2], ((HB6.out.setCell (p := ⟨w.heap.size, 0, none⟩) (by simp) _).setCell (p := ⟨w.heap.size, 1, none⟩) (by simp) _).setCell (p := ⟨w.heap.size, 2, none⟩) (by simp) _⟩
end Go.Proofs.YtcjnfodkppcpoaaDoor
