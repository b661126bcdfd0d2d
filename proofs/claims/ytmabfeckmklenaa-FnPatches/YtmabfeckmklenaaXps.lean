/- DiffText: the model, the program. -/
import Derived.Test.YtmabfeckmklenaaXpq
import Derived.Test.YtmabfeckmklenaaXpr
namespace Go.Proofs.Ytmabfeckmklenaa
open Go.RowKit
set_option linter.unusedVariables false
set_option linter.unusedSimpArgs false

/-- The code of DiffText. -/
def dtC (l m : List Int) : Int := if 240 < l.length ∨ 240 < m.length then 6 else 0

/-- The patches of DiffText. -/
def dtL (l m : List Int) : List XK := if 240 < l.length ∨ 240 < m.length then [] else dfL l m

theorem PO.mono {lo hi lo' hi' : Nat} {w : World} {v : Value} {l : List XK} (h : PO lo hi w v l) (h1 : lo' ≤ lo) (h2 : hi ≤ hi') : PO lo' hi' w v l := by
  obtain ⟨a, c, e, h⟩ := h
  refine ⟨a, c, e, ?_⟩
  rcases h with h | ⟨g, hvs, ea, g1, g2, hr, ho, hap, hg, hin⟩
  · exact .inl h
  · exact .inr ⟨g, hvs, ea, by omega, by omega, hr, ho, hap, hg, fun k hk => (hin k hk).mono h1 h2⟩

theorem dfX_at (l m : List Int) : dfX l m = ⟨(cpl l m : Nat), ((l.length - cpl l m - cpl (l.drop (cpl l m)).reverse (m.drop (cpl l m)).reverse : Nat) : Int), (m.drop (cpl l m)).take (m.length - cpl l m - cpl (l.drop (cpl l m)).reverse (m.drop (cpl l m)).reverse)⟩ := rfl

set_option maxHeartbeats 1600000 in
theorem specDT_any (b1 o1 c b2 o2 d : Nat) (l m : List Int) (w : World) (ha : CAt w b1 o1 l) (hb : CAt w b2 o2 m) (hc : l.length ≤ c) (hd : m.length ≤ d) :
    Calls Try.prog 8 #[.slice (some ⟨b1, o1, none⟩) l.length c, .slice (some ⟨b2, o2, none⟩) m.length d] w fun e w' => ∃ v, e = .returned (.agg #[.int .i64 (dtC l m), v]) ∧ PO w.heap.size w'.heap.size w' v (dtL l m) ∧ Below w.heap.size w w' := by
  have B0 := below_new w (.cells #[.int .i64 0, .slice none 0 0] 28)
  have R0 := rowp2 w 28 (.int .i64 0) (.slice none 0 0)
  have BB := Hid.mk' B0
  have RR := Hid.mk' R0
  have HA := Hid.mk' (ha.below B0)
  have HB := Hid.mk' (hb.below B0)
  clear B0 R0 ha hb
  generalize hW : w.alloc (.cells #[.int .i64 0, .slice none 0 0] 28) = W at *
  obtain ⟨y0, y1, y2⟩ := cells2 RR.out
  have f0 := RR.out.frozen 0
  have f1 := RR.out.frozen 1
  by_cases h1 : 240 < (l.length : Int)
  · have EC : Hid (dtC l m = 6) := Hid.mk' (by unfold dtC; rw [if_pos (by omega)])
    have EL : Hid (dtL l m = []) := Hid.mk' (by unfold dtL; rw [if_pos (by omega)])
    go_enter Try.func8, Try.ntmps8
    go_wp2_with fail
    clear hW
    go_wp2
    refine bodyPost_ret (v := .agg #[.int .i64 6, .slice none 0 0]) (by simp [results, Try.results8, go_sem, *]) rfl ?_
    refine ⟨_, by rw [EC.out], ?_, (BB.out.setCell (p := ⟨w.heap.size, 0, none⟩) (Nat.le_refl _) _).setCell (p := ⟨w.heap.size, 1, none⟩) (Nat.le_refl _) _⟩
    rw [EL.out]
    exact ⟨_, _, rfl, .inl rfl⟩
  by_cases h2 : 240 < (m.length : Int)
  · have EC : Hid (dtC l m = 6) := Hid.mk' (by unfold dtC; rw [if_pos (by omega)])
    have EL : Hid (dtL l m = []) := Hid.mk' (by unfold dtL; rw [if_pos (by omega)])
    go_enter Try.func8, Try.ntmps8
    go_wp2_with fail
    clear hW
    go_wp2
    refine bodyPost_ret (v := .agg #[.int .i64 6, .slice none 0 0]) (by simp [results, Try.results8, go_sem, *]) rfl ?_
    refine ⟨_, by rw [EC.out], ?_, (BB.out.setCell (p := ⟨w.heap.size, 0, none⟩) (Nat.le_refl _) _).setCell (p := ⟨w.heap.size, 1, none⟩) (Nat.le_refl _) _⟩
    rw [EL.out]
    exact ⟨_, _, rfl, .inl rfl⟩
  have EC : Hid (dtC l m = 0) := Hid.mk' (by unfold dtC; rw [if_neg (by omega)])
  have EL : Hid (dtL l m = dfL l m) := Hid.mk' (by unfold dtL; rw [if_neg (by omega)])
  have K := Hid.mk' (l14Diff_any b1 o1 c b2 o2 d l m W HA.out HB.out hc hd (by omega) (by omega))
  clear y0 y1 f0 f1
  go_enter Try.func8, Try.ntmps8
  go_wp2_with fail
  clear hW
  refine K.out.mono ?_
  rintro e w1 ⟨v, rfl, hp, hb1⟩
  obtain ⟨va, vc, ev, _⟩ := hp.at
  subst ev
  have HP := Hid.mk' hp
  have B1 := Hid.mk' (BB.out.trans (hb1.mono BB.out.size))
  have R1 := rowB RR.out hb1
  have wl := RR.out.lt
  obtain ⟨y0, y1, y2⟩ := cells2 R1
  have f0 := R1.frozen 0
  have f1 := R1.frozen 1
  clear K hp hb1 R1
  go_wp2
  refine bodyPost_ret (v := .agg #[.int .i64 0, .slice va (dfL l m).length vc]) (by simp [results, Try.results8, go_sem, *]) rfl ?_
  have hk := kept2 w1 w.heap.size 0 1 (.int .i64 0) (.slice va (dfL l m).length vc)
  refine ⟨_, by rw [EC.out], ?_, B1.out.trans (hk.below (by omega) B1.out.size)⟩
  rw [EL.out]
  exact (HP.out.kept hk (.inl (by omega))).mono (by omega) hk.size

set_option maxHeartbeats 1600000 in
theorem implDT_any (b1 o1 c b2 o2 d : Nat) (l m : List Int) (w : World) (ha : CAt w b1 o1 l) (hb : CAt w b2 o2 m) (hc : l.length ≤ c) (hd : m.length ≤ d) :
    Calls Try.prog 7 #[.slice (some ⟨b1, o1, none⟩) l.length c, .slice (some ⟨b2, o2, none⟩) m.length d] w fun e w' => ∃ v, e = .returned (.agg #[.int .i64 (dtC l m), v]) ∧ PO w.heap.size w'.heap.size w' v (dtL l m) ∧ Below w.heap.size w w' := by
  have B0 := below_new w (.cells #[.int .i64 0, .slice none 0 0] 28)
  have R0 := rowp2 w 28 (.int .i64 0) (.slice none 0 0)
  have BB := Hid.mk' B0
  have RR := Hid.mk' R0
  have HA := Hid.mk' (ha.below B0)
  have HB := Hid.mk' (hb.below B0)
  clear B0 R0 ha hb
  generalize hW : w.alloc (.cells #[.int .i64 0, .slice none 0 0] 28) = W at *
  obtain ⟨y0, y1, y2⟩ := cells2 RR.out
  have f0 := RR.out.frozen 0
  have f1 := RR.out.frozen 1
  by_cases h1 : 240 < (l.length : Int)
  · have EC : Hid (dtC l m = 6) := Hid.mk' (by unfold dtC; rw [if_pos (by omega)])
    have EL : Hid (dtL l m = []) := Hid.mk' (by unfold dtL; rw [if_pos (by omega)])
    go_enter Try.func7, Try.ntmps7
    go_wp2_with fail
    clear hW
    go_wp2
    refine bodyPost_ret (v := .agg #[.int .i64 6, .slice none 0 0]) (by simp [results, Try.results7, go_sem, *]) rfl ?_
    refine ⟨_, by rw [EC.out], ?_, (BB.out.setCell (p := ⟨w.heap.size, 0, none⟩) (Nat.le_refl _) _).setCell (p := ⟨w.heap.size, 1, none⟩) (Nat.le_refl _) _⟩
    rw [EL.out]
    exact ⟨_, _, rfl, .inl rfl⟩
  by_cases h2 : 240 < (m.length : Int)
  · have EC : Hid (dtC l m = 6) := Hid.mk' (by unfold dtC; rw [if_pos (by omega)])
    have EL : Hid (dtL l m = []) := Hid.mk' (by unfold dtL; rw [if_pos (by omega)])
    go_enter Try.func7, Try.ntmps7
    go_wp2_with fail
    clear hW
    go_wp2
    refine bodyPost_ret (v := .agg #[.int .i64 6, .slice none 0 0]) (by simp [results, Try.results7, go_sem, *]) rfl ?_
    refine ⟨_, by rw [EC.out], ?_, (BB.out.setCell (p := ⟨w.heap.size, 0, none⟩) (Nat.le_refl _) _).setCell (p := ⟨w.heap.size, 1, none⟩) (Nat.le_refl _) _⟩
    rw [EL.out]
    exact ⟨_, _, rfl, .inl rfl⟩
  have EC : Hid (dtC l m = 0) := Hid.mk' (by unfold dtC; rw [if_neg (by omega)])
  have EL : Hid (dtL l m = dfL l m) := Hid.mk' (by unfold dtL; rw [if_neg (by omega)])
  have KE := bytesEqual_any (some ⟨b1, o1, none⟩) (some ⟨b2, o2, none⟩) c d l m W HA.out.at HB.out.at
  cases hq : ((strI l).toList == (strI m).toList) with
  | true =>
    have E : Hid (dfL l m = []) := Hid.mk' (by unfold dfL beqB; rw [if_pos hq])
    rw [hq] at KE
    have KE := Hid.mk' KE
    go_enter Try.func7, Try.ntmps7
    go_wp2_with fail
    clear hW
    refine KE.out.mono ?_
    rintro e w1 ⟨rfl, hw1⟩
    obtain rfl := hw1.symm
    go_wp2
    refine bodyPost_ret (v := .agg #[.int .i64 0, .slice none 0 0]) (by simp [results, Try.results7, go_sem, *]) rfl ?_
    refine ⟨_, by rw [EC.out], ?_, (BB.out.setCell (p := ⟨w.heap.size, 0, none⟩) (Nat.le_refl _) _).setCell (p := ⟨w.heap.size, 1, none⟩) (Nat.le_refl _) _⟩
    rw [EL.out, E.out]
    exact ⟨_, _, rfl, .inl rfl⟩
  | false =>
    have E : Hid (dfL l m = [dfX l m]) := Hid.mk' (by unfold dfL beqB; rw [if_neg (by rw [hq]; exact Bool.false_ne_true)])
    have HX := Hid.mk' (dfX_at l m)
    rw [hq] at KE
    have KE := Hid.mk' KE
    obtain ⟨n, hn⟩ : ∃ n, cpl l m = n := ⟨_, rfl⟩
    obtain ⟨en, he⟩ : ∃ en, cpl (l.drop n).reverse (m.drop n).reverse = en := ⟨_, rfl⟩
    have KC := Hid.mk' (changeOf_any b1 o1 c b2 o2 d l m W HA.out HB.out hc hd (by omega) (by omega) n en hn he)
    have XX := HX.out
    rw [hn, he] at XX
    obtain ⟨p, hp⟩ : ∃ p, (m.drop n).take (m.length - n - en) = p := ⟨_, rfl⟩
    have KC := KC.out
    rw [hp] at KC XX
    obtain ⟨t, ht⟩ : ∃ t, l.length - n - en = t := ⟨_, rfl⟩
    rw [ht] at KC XX
    have KC := Hid.mk' KC
    have XX1 := Hid.mk' XX
    clear hn he hp ht XX HX y0 y1 f0 f1
    go_enter Try.func7, Try.ntmps7
    go_wp2_with fail
    clear hW
    refine KE.out.mono ?_
    rintro e w1 ⟨rfl, hw1⟩
    obtain rfl := hw1.symm
    clear KE
    go_wp2_with fail
    refine KC.out.mono ?_
    rintro e w2 ⟨v, rfl, ho, hb2⟩
    obtain ⟨o2', lo2⟩ := OB.of_own ho
    obtain ⟨va, vc, ev, _⟩ := o2'.len
    subst ev
    have OO := Hid.mk' o2'
    have B2 := Hid.mk' (BB.out.trans (hb2.mono BB.out.size))
    have R2 := rowB RR.out hb2
    have wl := RR.out.lt
    have s2 := hb2.size
    have NW := below_new w2 (.cells #[.int .i64 (n : Int), .int .i64 (t : Int), .slice va p.length vc] 33)
    have B3 := Hid.mk' (B2.out.trans (NW.mono B2.out.size))
    have I2 : Hid (In W.heap.size w2.heap.size (.slice va p.length vc)) := Hid.mk' (fun k hk => ⟨lo2 k hk, o2'.lt k hk⟩)
    have PP := Hid.mk' (one_patch (x := ⟨(n : Int), (t : Int), p⟩) OO.out I2.out s2)
    have R3 := rowB R2 NW
    have z3 : (w2.alloc (.cells #[.int .i64 (n : Int), .int .i64 (t : Int), .slice va p.length vc] 33)).heap.size = w2.heap.size + 1 := by simp
    have Z3 := Hid.mk' z3
    clear KC ho o2' lo2 hb2 R2 NW z3
    generalize hV : w2.alloc (.cells #[.int .i64 (n : Int), .int .i64 (t : Int), .slice va p.length vc] 33) = V at *
    obtain ⟨y0, y1, y2⟩ := cells2 R3
    have f0 := R3.frozen 0
    have f1 := R3.frozen 1
    clear R3
    go_wp2
    refine bodyPost_ret (v := .agg #[.int .i64 0, .slice (some ⟨w2.heap.size, 0, none⟩) 1 1]) (by simp [results, Try.results7, go_sem, *]) rfl ?_
    have hk := kept2 V w.heap.size 0 1 (.int .i64 0) (.slice (some ⟨w2.heap.size, 0, none⟩) 1 1)
    refine ⟨_, by rw [EC.out], ?_, B3.out.trans (hk.below (by omega) B3.out.size)⟩
    rw [EL.out, E.out, XX1.out]
    exact (PP.out.kept hk (.inl (by omega))).mono (by omega) (by have := Z3.out; have := hk.size; omega)

end Go.Proofs.Ytmabfeckmklenaa
