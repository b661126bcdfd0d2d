/- Places of a tree: both sides' DepthOf. -/
import Derived.Test.YtphilngnkigcfaaGf
namespace Go.Proofs.Ytphilngnkigcfaa
open Go.RowKit
set_option linter.unusedVariables false
set_option linter.unusedSimpArgs false

/-- What DepthOf tells. -/
def depR (l : List ND) (x : Int) : Int := if askF l x = 0 then (depU (upF l) x.toNat : Int) else 0

/-- What EndOf tells. -/
def endR (l : List ND) (x : Int) : Int := if askF l x = 0 then (endN l x.toNat : Int) else 0

/-- A tree in another box. -/
theorem TT.rebox {w0 w w' : World} {base g h : Nat} {l : List ND} {pa : Nat → Option Addr} {ca : Nat → Nat} {k : Nat} {vn vw : Value} (t : TT w0 base g l pa ca k vn vw w) (hb : Below w.heap.size w w') (hh : w.heap.size ≤ h) (hr : w'.rowIs h 54 2 (p2 vn vw)) : TT w0 base h l pa ca k vn vw w' := by
  have h1 := t.below hb
  exact ⟨hr, h1.on, h1.ow, h1.ap, fun e => by have := (t.on.lt _ e).2; omega, fun e => by have := (t.ow.lt _ e).2; omega, h1.bl, h1.sz, by have := t.sz; omega⟩

theorem ask_cases (l : List ND) (x : Int) : (¬ treeF l = 0 ∧ askF l x = treeF l) ∨ (treeF l = 0 ∧ ¬ (0 ≤ x ∧ x < (l.length : Int)) ∧ askF l x = 3) ∨ (treeF l = 0 ∧ askF l x = 0 ∧ ∃ m : Nat, x = (m : Int) ∧ m < l.length) := by
  unfold askF
  by_cases h : treeF l = 0
  · by_cases h2 : 0 ≤ x ∧ x < (l.length : Int)
    · exact .inr (.inr ⟨h, by rw [if_pos h, if_pos h2], x.toNat, by omega, by omega⟩)
    · exact .inr (.inl ⟨h, h2, by rw [if_pos h, if_neg h2]⟩)
  · exact .inl ⟨h, by rw [if_neg h]⟩

set_option maxHeartbeats 1600000 in
theorem l6Asked_any (a : Option Addr) (c : Nat) (l : List ND) (x : Int) (w : World) (ha : NsAt w a l) (hl : (l.length : Int) + nssz l ≤ 1048576) :
    Calls Try.prog 35 #[.slice a l.length c, .int .i64 x] w fun e w' => e = .returned (.int .i64 (askF l x)) ∧ Below w.heap.size w w' := by
  have KF := Hid.mk' (l6Fault_any a c l w ha hl)
  have KI : Hid (∀ w', Calls Try.prog 40 #[.int .i64 x, .int .i64 0, .int .i64 ((l.length : Int) - 1)] w' fun e w'' => e = .returned (.bool (decide (0 ≤ x) && decide (x ≤ (l.length : Int) - 1))) ∧ w'' = w') := fun w' => l1In_any x 0 ((l.length : Int) - 1) w'
  clear ha
  rcases ask_cases l x with ⟨h0, h1⟩ | ⟨h0, h1, h2⟩ | ⟨h0, h1, m, rfl, hm⟩
  · rw [h1]
    go_enter Try.func35, Try.ntmps35
    go_wp2_with fail
    refine KF.out.mono ?_
    rintro e w1 ⟨rfl, hb⟩
    have HB := Hid.mk' hb
    clear hb KF
    go_wp2
    go_ret
    exact ⟨rfl, HB.out⟩
  · rw [h2]
    rw [h0] at KF
    have e1 : (decide (0 ≤ x) && decide (x ≤ (l.length : Int) - 1)) = false := by simp; omega
    rw [e1] at KI
    clear e1
    go_enter Try.func35, Try.ntmps35
    go_wp2_with fail
    refine KF.out.mono ?_
    rintro e w1 ⟨rfl, hb⟩
    have HB := Hid.mk' hb
    clear hb KF
    go_wp2_with fail
    refine (KI.out _).mono ?_
    rintro e w2 ⟨rfl, hw⟩
    obtain rfl := hw.symm
    go_wp2
    go_ret
    exact ⟨rfl, HB.out⟩
  · rw [h1]
    rw [h0] at KF
    have e1 : (decide (0 ≤ (m : Int)) && decide ((m : Int) ≤ (l.length : Int) - 1)) = true := by simp; omega
    rw [e1] at KI
    clear e1
    go_enter Try.func35, Try.ntmps35
    go_wp2_with fail
    refine KF.out.mono ?_
    rintro e w1 ⟨rfl, hb⟩
    have HB := Hid.mk' hb
    clear hb KF
    go_wp2_with fail
    refine (KI.out _).mono ?_
    rintro e w2 ⟨rfl, hw⟩
    obtain rfl := hw.symm
    go_wp2
    go_ret
    exact ⟨rfl, HB.out⟩

set_option maxHeartbeats 1600000 in
theorem specDepth_any (a : Option Addr) (c : Nat) (l : List ND) (x : Int) (w : World) (ha : NsAt w a l) (hl : (l.length : Int) + nssz l ≤ 1048576) :
    Calls Try.prog 16 #[.slice a l.length c, .int .i64 x] w fun e w' => e = .returned (.agg #[.int .i64 (askF l x), .int .i64 (depR l x)]) ∧ Below w.heap.size w w' := by
  have N0 := below_new w (.cells #[.int .i64 0, .int .i64 0] 31)
  have KF := l6Asked_any a c l x _ (ha.below N0) hl
  have RB := Hid.mk' (rowp2 w 31 (.int .i64 0) (.int .i64 0))
  have HN := Hid.mk' N0
  have HA := Hid.mk' (ha.below N0)
  clear ha N0
  generalize hW : w.alloc (.cells #[.int .i64 0, .int .i64 0] 31) = W at *
  by_cases h0 : askF l x = 0
  · have E : Hid (depR l x = (depU (upF l) x.toNat : Int)) := Hid.mk' (by unfold depR; rw [if_pos h0])
    have HE := Hid.mk' h0
    obtain ⟨h1, m, rfl, hm⟩ : treeF l = 0 ∧ ∃ m : Nat, x = (m : Int) ∧ m < l.length := by
      rcases ask_cases l x with ⟨h1, h2⟩ | ⟨h1, h2, h3⟩ | ⟨h1, h2, h3⟩
      · rw [h2] at h0; exact absurd h0 h1
      · rw [h3] at h0; exact absurd h0 (by decide)
      · exact ⟨h1, h3⟩
    have KD : Hid (∀ w', Below W.heap.size W w' → Calls Try.prog 36 #[.slice a l.length c, .int .i64 (m : Int)] w' fun e w'' => e = .returned (.int .i64 (depU (upF l) m : Int)) ∧ w'' = w') := fun w' hb => l6Depth_any a c l m w' (HA.out.below hb) hm ((treeF_ways h1).mono (by omega)) (treeF_ways h1 m hm) (by omega)
    rw [h0] at KF
    have KF := Hid.mk' KF
    clear h0 h1
    go_enter Try.func16, Try.ntmps16
    go_wp2_with fail
    clear hW
    refine KF.out.mono ?_
    rintro e w1 ⟨rfl, hb⟩
    have R1 := rowB RB.out hb
    have HB := Hid.mk' (HN.out.trans (hb.mono HN.out.size))
    have HC := Hid.mk' hb
    obtain ⟨b0, b1, b2⟩ := cells2 R1
    have f0 := R1.frozen 0
    have f1 := R1.frozen 1
    clear hb KF R1
    go_wp2_with fail
    refine (KD.out _ HC.out).mono ?_
    rintro e w2 ⟨rfl, hw⟩
    obtain rfl := hw.symm
    go_wp2
    refine bodyPost_ret (v := .agg #[.int .i64 0, .int .i64 (depU (upF l) m : Int)]) (by simp [results, Try.results16, go_sem, *]) rfl ?_
    exact ⟨by rw [HE.out, E.out, Int.toNat_natCast], (HB.out.setCell (p := ⟨w.heap.size, 0, none⟩) (Nat.le_refl _) _).setCell (p := ⟨w.heap.size, 1, none⟩) (Nat.le_refl _) _⟩
  · have E : Hid (depR l x = 0) := Hid.mk' (by unfold depR; rw [if_neg h0])
    have KF := Hid.mk' KF
    go_enter Try.func16, Try.ntmps16
    go_wp2_with fail
    clear hW
    refine KF.out.mono ?_
    rintro e w1 ⟨rfl, hb⟩
    have R1 := rowB RB.out hb
    have HB := Hid.mk' (HN.out.trans (hb.mono HN.out.size))
    obtain ⟨b0, b1, b2⟩ := cells2 R1
    have f0 := R1.frozen 0
    have f1 := R1.frozen 1
    clear hb KF R1
    go_wp2
    refine bodyPost_ret (v := .agg #[.int .i64 (askF l x), .int .i64 0]) (by simp [results, Try.results16, go_sem, *]) rfl ?_
    exact ⟨by rw [E.out], (HB.out.setCell (p := ⟨w.heap.size, 0, none⟩) (Nat.le_refl _) _).setCell (p := ⟨w.heap.size, 1, none⟩) (Nat.le_refl _) _⟩

set_option maxHeartbeats 1600000 in
theorem hasPlace_any (g : Nat) (an : Option Addr) (n cn : Nat) (x : Int) (w : World) (h : w.cell? ⟨g, 0, none⟩ = some (.slice an n cn)) :
    Calls Try.prog 37 #[.pointer (some ⟨g, 0, none⟩), .int .i64 x] w fun e w' => e = .returned (.bool (decide (x ≥ 0) && decide (x < (n : Int)))) ∧ w' = w := by
  by_cases h1 : x ≥ 0
  · by_cases h2 : x < (n : Int)
    all_goals
      go_enter Try.func37, Try.ntmps37
      go_wp2_with go_big_skip
      go_ret
      exact ⟨by simp [h1, h2], rfl⟩
  · go_enter Try.func37, Try.ntmps37
    go_wp2_with go_big_skip
    go_ret
    exact ⟨by simp; omega, rfl⟩

set_option maxHeartbeats 3200000 in
theorem implDepth_any (a : Option Addr) (c : Nat) (l : List ND) (x : Int) (w : World) (ha : NsAt w a l) (hl : (l.length : Int) + nssz l ≤ 1048576) :
    Calls Try.prog 17 #[.slice a l.length c, .int .i64 x] w fun e w' => e = .returned (.agg #[.int .i64 (askF l x), .int .i64 (depR l x)]) ∧ Below w.heap.size w w' := by
  have N0 := below_new w (.cells #[.int .i64 0, .int .i64 0] 31)
  have KF := Hid.mk' (treeOf_any a c l _ (ha.below N0) hl)
  have RB := Hid.mk' (rowp2 w 31 (.int .i64 0) (.int .i64 0))
  have HN := Hid.mk' N0
  clear ha N0
  generalize hW : w.alloc (.cells #[.int .i64 0, .int .i64 0] 31) = W at *
  go_enter Try.func17, Try.ntmps17
  go_wp2_with fail
  clear hW
  refine KF.out.mono ?_
  rintro e w1 (⟨h0, rfl, hb⟩ | ⟨h0, pa, ca, g, vn, vw, rfl, hT⟩)
  · have E1 : Hid (askF l x = treeF l) := Hid.mk' (by unfold askF; rw [if_neg h0])
    have E : Hid (depR l x = 0) := Hid.mk' (by unfold depR; rw [if_neg (by rw [E1.out]; exact h0)])
    have R1 := rowB RB.out hb
    have HB := Hid.mk' (HN.out.trans (hb.mono HN.out.size))
    obtain ⟨b0, b1, b2⟩ := cells2 R1
    have f0 := R1.frozen 0
    have f1 := R1.frozen 1
    clear hb KF R1
    go_wp2
    refine bodyPost_ret (v := .agg #[.int .i64 (treeF l), .int .i64 0]) (by simp [results, Try.results17, go_sem, *]) rfl ?_
    have T := (HB.out.setCell (p := ⟨w.heap.size, 0, none⟩) (Nat.le_refl _) (.int .i64 (treeF l))).setCell (p := ⟨w.heap.size, 1, none⟩) (Nat.le_refl _) (.int .i64 0)
    exact ⟨by rw [E1.out, E.out], T.alloc T.size _⟩
  · obtain ⟨an, cn, ev, _⟩ := own_len hT.on
    subst ev
    obtain ⟨aw, cw, ev, _⟩ := own_len hT.ow
    subst ev
    have N2 := below_new w1 (.cells #[.slice an l.length cn, .slice aw (wayU (upF l) l.length).length cw] 54)
    have HT2 := Hid.mk' (hT.rebox N2 (Nat.le_refl _) (rowp2 w1 54 (.slice an l.length cn) (.slice aw (wayU (upF l) l.length).length cw)))
    have R1 := rowB RB.out (hT.bl.trans (N2.mono hT.bl.size))
    have HB := Hid.mk' (HN.out.trans ((hT.bl.trans (N2.mono hT.bl.size)).mono HN.out.size))
    have H0 := Hid.mk' h0
    clear hT N2 KF
    obtain ⟨b0, b1, b2⟩ := cells2 R1
    have f0 := R1.frozen 0
    have f1 := R1.frozen 1
    generalize hW2 : w1.alloc (.cells #[.slice an l.length cn, .slice aw (wayU (upF l) l.length).length cw] 54) = W2 at *
    obtain ⟨t0, t1, t2⟩ := cells2 HT2.out.box
    have KH := Hid.mk' (hasPlace_any w1.heap.size an l.length cn x W2 t0)
    rcases ask_cases l x with ⟨h1, h2⟩ | ⟨h1, h2, h3⟩ | ⟨h1, h2, m, rfl, hm⟩
    · exact absurd h0 h1
    · have E : Hid (depR l x = 0) := Hid.mk' (by unfold depR; rw [if_neg (by rw [h3]; decide)])
      have E1 := Hid.mk' h3
      have e1 : (decide (x ≥ 0) && decide (x < (l.length : Int))) = false := by simp; omega
      rw [e1] at KH
      clear h1 h2 h3 e1 h0
      go_wp2_with fail
      clear hW2
      refine KH.out.mono ?_
      rintro e w2 ⟨rfl, hw⟩
      obtain rfl := hw.symm
      go_wp2
      refine bodyPost_ret (v := .agg #[.int .i64 3, .int .i64 0]) (by simp [results, Try.results17, go_sem, *]) rfl ?_
      exact ⟨by rw [E1.out, E.out], (HB.out.setCell (p := ⟨w.heap.size, 0, none⟩) (Nat.le_refl _) _).setCell (p := ⟨w.heap.size, 1, none⟩) (Nat.le_refl _) _⟩
    · have E : Hid (depR l m = (depU (upF l) m : Int)) := Hid.mk' (by unfold depR; rw [if_pos h2, Int.toNat_natCast])
      have E1 := Hid.mk' h2
      have e1 : (decide ((m : Int) ≥ 0) && decide ((m : Int) < (l.length : Int))) = true := by simp; omega
      rw [e1] at KH
      obtain ⟨nb, cap, ev, _, _, hnode⟩ := HT2.out.node (by omega)
      cases ev
      obtain ⟨_, _, _, _, d4⟩ := hnode m hm
      have mi : (m : Int) < (l.length : Int) := by omega
      clear h1 h2 e1 h0 hnode
      go_wp2_with fail
      clear hW2
      refine KH.out.mono ?_
      rintro e w2 ⟨rfl, hw⟩
      obtain rfl := hw.symm
      go_wp2
      refine bodyPost_ret (v := .agg #[.int .i64 0, .int .i64 (depU (upF l) m : Int)]) (by simp [results, Try.results17, go_sem, *]) rfl ?_
      exact ⟨by rw [E1.out, E.out], (HB.out.setCell (p := ⟨w.heap.size, 0, none⟩) (Nat.le_refl _) _).setCell (p := ⟨w.heap.size, 1, none⟩) (Nat.le_refl _) _⟩

theorem eqIntResult_any (x y : Int) (w : World) :
    Calls Try.prog 18 #[.agg #[.int .i64 x, .int .i64 y], .agg #[.int .i64 x, .int .i64 y]] w fun e w' => e = .returned (.bool true) ∧ Below w.heap.size w w' := by
  go_enter Try.func18, Try.ntmps18
  go_wp2
  go_ret
  exact ⟨rfl, ((below_new _ _).alloc (by simp) _)⟩

end Go.Proofs.Ytphilngnkigcfaa
