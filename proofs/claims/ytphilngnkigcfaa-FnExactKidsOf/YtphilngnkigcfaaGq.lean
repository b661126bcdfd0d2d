/- Places of a tree: both sides' EndOf. -/
import Derived.Test.YtphilngnkigcfaaGn
namespace Go.Proofs.Ytphilngnkigcfaa
open Go.RowKit
set_option linter.unusedVariables false
set_option linter.unusedSimpArgs false

/-- The m-th is one of the way to the e-th, at its depth. -/
def onWay (l : List ND) (m e : Nat) : Prop := wv (wayU (upF l) e) (depU (upF l) m + 1) = m ∧ depU (upF l) m + 1 < (wayU (upF l) e).length

theorem onWay_start {l : List ND} {n m : Nat} (h : Ways l n) (hm : m < n) : onWay l m (m + 1) := by
  obtain ⟨L, _, en⟩ := way_succ (upF l) m (h m hm)
  exact ⟨en, by omega⟩

theorem inW_dep {l : List ND} {m e : Nat} (h : Ways l l.length) (hme : m < e) (he : e < l.length) (ho : onWay l m e) : inW (wayU (upF l) (e + 1)) m = decide (depU (upF l) m < depU (upF l) e) := by
  obtain ⟨i1, i2⟩ := in_iff (upF l) l.length h hme he ho
  have G := (h.mono (show e + 1 ≤ l.length by omega)).good
  unfold inW
  by_cases c : depU (upF l) m < depU (upF l) e
  · obtain ⟨h1, h2⟩ := i1 c
    rw [← h1, G.ix h2, decide_eq_true h2, decide_eq_true c]
  · rw [ixF_none _ _ (i2 c), decide_eq_false c, decide_eq_false (Nat.lt_irrefl _)]

set_option maxHeartbeats 3200000 in
theorem specEnd_any (a : Option Addr) (c : Nat) (l : List ND) (x : Int) (w : World) (ha : NsAt w a l) (hl : (l.length : Int) + nssz l ≤ 1048576) :
    Calls Try.prog 19 #[.slice a l.length c, .int .i64 x] w fun e w' => e = .returned (.agg #[.int .i64 (askF l x), .int .i64 (endR l x)]) ∧ Below w.heap.size w w' := by
  have N0 := below_new w (.cells #[.int .i64 0, .int .i64 0] 31)
  have KF := l6Asked_any a c l x _ (ha.below N0) hl
  have RB := Hid.mk' (rowp2 w 31 (.int .i64 0) (.int .i64 0))
  have HN := Hid.mk' N0
  have HA := Hid.mk' (ha.below N0)
  clear ha N0
  generalize hW : w.alloc (.cells #[.int .i64 0, .int .i64 0] 31) = W at *
  by_cases h0 : askF l x = 0
  · have E : Hid (endR l x = (endN l x.toNat : Int)) := Hid.mk' (by unfold endR; rw [if_pos h0])
    have HE := Hid.mk' h0
    obtain ⟨h1, m, rfl, hm⟩ : treeF l = 0 ∧ ∃ m : Nat, x = (m : Int) ∧ m < l.length := by
      rcases ask_cases l x with ⟨h1, h2⟩ | ⟨h1, h2, h3⟩ | ⟨h1, h2, h3⟩
      · rw [h2] at h0; exact absurd h0 h1
      · rw [h3] at h0; exact absurd h0 (by decide)
      · exact ⟨h1, h3⟩
    have HWy := Hid.mk' (treeF_ways h1)
    have KI : Hid (∀ (e : Nat) (w' : World), e < l.length → Below W.heap.size W w' → Calls Try.prog 38 #[.slice a l.length c, .int .i64 (e : Int), .int .i64 (m : Int)] w' fun e' w'' => e' = .returned (.bool (inW (wayU (upF l) (e + 1)) m)) ∧ w'' = w') := fun e w' he hb => by
      have := l6In_any a c l (e + 1) (m : Int) w' (HA.out.below hb) (by omega) ((treeF_ways h1).mono (by omega)) (by omega)
      rw [show ((e + 1 : Nat) : Int) - 1 = (e : Int) by omega] at this
      exact this
    rw [h0] at KF
    have KF := Hid.mk' KF
    clear h0 h1
    go_enter Try.func19, Try.ntmps19
    go_wp2_with fail
    clear hW
    refine KF.out.mono ?_
    rintro e w1 ⟨rfl, hb⟩
    have R1 := rowB RB.out hb
    have HB := Hid.mk' (HN.out.trans (hb.mono HN.out.size))
    have HC := Hid.mk' hb
    have HR := Hid.mk' R1
    clear hb KF R1
    go_wp2_with fail
    go_loop [6] (fun i => ∃ e : Nat, m < e ∧ e ≤ l.length ∧ i = .int .i64 e ∧ onWay l m e ∧ endN l m = endU (depU (upF l)) m (l.length - e) e) (fun i => l.length - (intOf i).toNat)
    case atStart => exact ⟨m + 1, by omega, by omega, rfl, onWay_start HWy.out hm, rfl⟩
    case round =>
      obtain ⟨e, he1, he2, rfl, hon, hen⟩ := hrel
      have HO := Hid.mk' hon
      have HD := Hid.mk' hen
      clear hon hen
      by_cases hlt : e < l.length
      · have ci : (e : Int) < (l.length : Int) := by omega
        have KJ := KI.out e w1 hlt HC.out
        rw [inW_dep HWy.out he1 hlt HO.out] at KJ
        by_cases hdp : depU (upF l) m < depU (upF l) e
        · rw [decide_eq_true hdp] at KJ
          have KJ := Hid.mk' KJ
          have E2 := Hid.mk' (endU_step (d := depU (upF l)) (a := m) hlt hdp)
          have O2 := Hid.mk' ((in_iff (upF l) l.length HWy.out he1 hlt HO.out).1 hdp)
          clear hdp
          go_wp2_with (first | go_big_skip | (go_at_call 38; refine KJ.out.mono ?_; rintro e9 w9 ⟨rfl, hw9⟩; obtain rfl := hw9.symm))
          go_round
          case rel => exact ⟨e + 1, by omega, by omega, by go_num, O2.out, by rw [HD.out, E2.out]⟩
          case measure => simp [intOf]; omega
        · rw [decide_eq_false hdp] at KJ
          have KJ := Hid.mk' KJ
          have E2 : Hid (endN l m = e) := Hid.mk' (by rw [HD.out]; exact endU_stop hdp)
          obtain ⟨b0, b1, b2⟩ := cells2 HR.out
          have f0 := HR.out.frozen 0
          have f1 := HR.out.frozen 1
          clear hdp
          go_wp2_with (first | go_big_skip | (go_at_call 38; refine KJ.out.mono ?_; rintro e9 w9 ⟨rfl, hw9⟩; obtain rfl := hw9.symm))
          refine bodyPost_ret (v := .agg #[.int .i64 0, .int .i64 (e : Int)]) (by simp [results, Try.results19, go_sem, *]) rfl ?_
          exact ⟨by rw [HE.out, E.out, Int.toNat_natCast, E2.out], (HB.out.setCell (p := ⟨w.heap.size, 0, none⟩) (Nat.le_refl _) _).setCell (p := ⟨w.heap.size, 1, none⟩) (Nat.le_refl _) _⟩
      · have ci : ¬ (e : Int) < (l.length : Int) := by omega
        have E2 : Hid (endN l m = e) := Hid.mk' (by rw [HD.out]; exact endU_all (by omega))
        obtain ⟨b0, b1, b2⟩ := cells2 HR.out
        have f0 := HR.out.frozen 0
        have f1 := HR.out.frozen 1
        go_wp2_with go_big_skip
        refine bodyPost_ret (v := .agg #[.int .i64 0, .int .i64 (e : Int)]) (by simp [results, Try.results19, go_sem, *]) rfl ?_
        exact ⟨by rw [HE.out, E.out, Int.toNat_natCast, E2.out], (HB.out.setCell (p := ⟨w.heap.size, 0, none⟩) (Nat.le_refl _) _).setCell (p := ⟨w.heap.size, 1, none⟩) (Nat.le_refl _) _⟩
  · have E : Hid (endR l x = 0) := Hid.mk' (by unfold endR; rw [if_neg h0])
    have KF := Hid.mk' KF
    go_enter Try.func19, Try.ntmps19
    go_wp2_with fail
    clear hW
    refine KF.out.mono ?_
    rintro e w1 ⟨rfl, hb⟩
    have R1 := rowB RB.out hb
    have HB := Hid.mk' (HN.out.trans (hb.mono HN.out.size))
    obtain ⟨b0, b1, b2⟩ := cells2 R1
    have f0 := R1.frozen 0
    have f1 := R1.frozen 1
    clear hb KF R1
    go_wp2
    refine bodyPost_ret (v := .agg #[.int .i64 (askF l x), .int .i64 0]) (by simp [results, Try.results19, go_sem, *]) rfl ?_
    exact ⟨by rw [E.out], (HB.out.setCell (p := ⟨w.heap.size, 0, none⟩) (Nat.le_refl _) _).setCell (p := ⟨w.heap.size, 1, none⟩) (Nat.le_refl _) _⟩

set_option maxHeartbeats 3200000 in
theorem end_any (w0 : World) (base g : Nat) (l : List ND) (pa : Nat → Option Addr) (ca : Nat → Nat) (vn vw : Value) (m : Nat) (w : World) (h : TT w0 base g l pa ca l.length vn vw w) (hm : m < l.length) (hl : (l.length : Int) ≤ 1048576) :
    Calls Try.prog 39 #[.pointer (some ⟨g, 0, none⟩), .int .i64 (m : Int)] w fun e w' => e = .returned (.int .i64 (endN l m : Int)) ∧ Below w.heap.size w w' := by
  obtain ⟨nb, cap, rfl, _, _, hnode⟩ := h.node (by omega)
  obtain ⟨c0, c1, c2⟩ := cells2 h.box
  have HN := Hid.mk' hnode
  have HC := Hid.mk' c0
  clear h hnode c1
  go_enter Try.func39, Try.ntmps39
  go_wp2_with fail
  go_loopw [5] (fun i wr => ∃ e : Nat, m < e ∧ e ≤ l.length ∧ i = .int .i64 e ∧ endN l m = endU (depU (upF l)) m (l.length - e) e ∧ Below w.heap.size w wr) (fun i _ => l.length - (intOf i).toNat)
  case atStart => exact ⟨m + 1, by omega, by omega, rfl, rfl, Below.refl _ _⟩
  case round =>
    obtain ⟨e, he1, he2, rfl, hen, hbl⟩ := hrel
    have HD := Hid.mk' hen
    have HB := Hid.mk' hbl
    have k0 := (hbl.cell c2).trans HC.out
    have HC := Hid.mk' k0
    clear hen c0
    have KH : Hid (∀ w', w'.cell? ⟨g, 0, none⟩ = some (.slice (some ⟨nb, 0, none⟩) l.length cap) → Calls Try.prog 37 #[.pointer (some ⟨g, 0, none⟩), .int .i64 (e : Int)] w' fun e' w'' => e' = .returned (.bool (decide ((e : Int) ≥ 0) && decide ((e : Int) < (l.length : Int)))) ∧ w'' = w') := fun w' hc => hasPlace_any g (some ⟨nb, 0, none⟩) l.length cap e w' hc
    by_cases hlt : e < l.length
    · have ci : (e : Int) < (l.length : Int) := by omega
      have cm : (m : Int) < (l.length : Int) := by omega
      rw [show (decide ((e : Int) ≥ 0) && decide ((e : Int) < (l.length : Int))) = true by simp; omega] at KH
      have d4 := (hbl.cell (World.block_lt_of_cell? w ⟨nb, e * 5 + 4, none⟩ (HN.out e hlt).2.2.2.2)).trans (HN.out e hlt).2.2.2.2
      have d5 := (hbl.cell (World.block_lt_of_cell? w ⟨nb, m * 5 + 4, none⟩ (HN.out m hm).2.2.2.2)).trans (HN.out m hm).2.2.2.2
      clear hbl
      by_cases hdp : depU (upF l) m < depU (upF l) e
      · have E2 := Hid.mk' (endU_step (d := depU (upF l)) (a := m) hlt hdp)
        have hd2 : (depU (upF l) e : Int) > (depU (upF l) m : Int) := by omega
        go_wp2_with fail
        go_quiet (first | (go_at_call 37; refine Calls.quiet_of_same (KH.out _ ?_); first | exact HC.out | simpa using HC.out))
        go_wp2
        go_roundw
        case rel => exact ⟨e + 1, by omega, by omega, by go_num, by rw [HD.out, E2.out], below_drewN HB.out _⟩
        case measure => simp [intOf]; omega
      · have E2 : Hid (endN l m = e) := Hid.mk' (by rw [HD.out]; exact endU_stop hdp)
        have hd2 : ¬ (depU (upF l) e : Int) > (depU (upF l) m : Int) := by omega
        go_wp2_with fail
        go_quiet (first | (go_at_call 37; refine Calls.quiet_of_same (KH.out _ ?_); first | exact HC.out | simpa using HC.out))
        go_wp2
        go_ret
        exact ⟨by rw [E2.out]; rfl, below_drewN HB.out _⟩
    · have ci : ¬ (e : Int) < (l.length : Int) := by omega
      have E2 : Hid (endN l m = e) := Hid.mk' (by rw [HD.out]; exact endU_all (by omega))
      rw [show (decide ((e : Int) ≥ 0) && decide ((e : Int) < (l.length : Int))) = false by simp; omega] at KH
      go_wp2_with fail
      go_quiet (first | (go_at_call 37; refine Calls.quiet_of_same (KH.out _ ?_); first | exact HC.out | simpa using HC.out))
      go_wp2
      go_ret
      exact ⟨by rw [E2.out]; rfl, below_drewN HB.out _⟩

set_option maxHeartbeats 3200000 in
theorem implEnd_any (a : Option Addr) (c : Nat) (l : List ND) (x : Int) (w : World) (ha : NsAt w a l) (hl : (l.length : Int) + nssz l ≤ 1048576) :
    Calls Try.prog 20 #[.slice a l.length c, .int .i64 x] w fun e w' => e = .returned (.agg #[.int .i64 (askF l x), .int .i64 (endR l x)]) ∧ Below w.heap.size w w' := by
  have N0 := below_new w (.cells #[.int .i64 0, .int .i64 0] 31)
  have KF := Hid.mk' (treeOf_any a c l _ (ha.below N0) hl)
  have RB := Hid.mk' (rowp2 w 31 (.int .i64 0) (.int .i64 0))
  have HN := Hid.mk' N0
  clear ha N0
  generalize hW : w.alloc (.cells #[.int .i64 0, .int .i64 0] 31) = W at *
  go_enter Try.func20, Try.ntmps20
  go_wp2_with fail
  clear hW
  refine KF.out.mono ?_
  rintro e w1 (⟨h0, rfl, hb⟩ | ⟨h0, pa, ca, g, vn, vw, rfl, hT⟩)
  · have E1 : Hid (askF l x = treeF l) := Hid.mk' (by unfold askF; rw [if_neg h0])
    have E : Hid (endR l x = 0) := Hid.mk' (by unfold endR; rw [if_neg (by rw [E1.out]; exact h0)])
    have R1 := rowB RB.out hb
    have HB := Hid.mk' (HN.out.trans (hb.mono HN.out.size))
    obtain ⟨b0, b1, b2⟩ := cells2 R1
    have f0 := R1.frozen 0
    have f1 := R1.frozen 1
    clear hb KF R1
    go_wp2
    refine bodyPost_ret (v := .agg #[.int .i64 (treeF l), .int .i64 0]) (by simp [results, Try.results20, go_sem, *]) rfl ?_
    have T := (HB.out.setCell (p := ⟨w.heap.size, 0, none⟩) (Nat.le_refl _) (.int .i64 (treeF l))).setCell (p := ⟨w.heap.size, 1, none⟩) (Nat.le_refl _) (.int .i64 0)
    exact ⟨by rw [E1.out, E.out], T.alloc T.size _⟩
  · obtain ⟨an, cn, ev, _⟩ := own_len hT.on
    subst ev
    obtain ⟨aw, cw, ev, _⟩ := own_len hT.ow
    subst ev
    have N2 := below_new w1 (.cells #[.slice an l.length cn, .slice aw (wayU (upF l) l.length).length cw] 54)
    have HT2 := Hid.mk' (hT.rebox N2 (Nat.le_refl _) (rowp2 w1 54 (.slice an l.length cn) (.slice aw (wayU (upF l) l.length).length cw)))
    have R1 := rowB RB.out (hT.bl.trans (N2.mono hT.bl.size))
    have HB := Hid.mk' (HN.out.trans ((hT.bl.trans (N2.mono hT.bl.size)).mono HN.out.size))
    have H0 := Hid.mk' h0
    clear hT N2 KF
    obtain ⟨b0, b1, b2⟩ := cells2 R1
    have f0 := R1.frozen 0
    have f1 := R1.frozen 1
    generalize hW2 : w1.alloc (.cells #[.slice an l.length cn, .slice aw (wayU (upF l) l.length).length cw] 54) = W2 at *
    obtain ⟨t0, t1, t2⟩ := cells2 HT2.out.box
    have KH := Hid.mk' (hasPlace_any w1.heap.size an l.length cn x W2 t0)
    rcases ask_cases l x with ⟨h1, h2⟩ | ⟨h1, h2, h3⟩ | ⟨h1, h2, m, rfl, hm⟩
    · exact absurd h0 h1
    · have E : Hid (endR l x = 0) := Hid.mk' (by unfold endR; rw [if_neg (by rw [h3]; decide)])
      have E1 := Hid.mk' h3
      have e1 : (decide (x ≥ 0) && decide (x < (l.length : Int))) = false := by simp; omega
      rw [e1] at KH
      clear h1 h2 h3 e1 h0
      go_wp2_with fail
      clear hW2
      refine KH.out.mono ?_
      rintro e w2 ⟨rfl, hw⟩
      obtain rfl := hw.symm
      go_wp2
      refine bodyPost_ret (v := .agg #[.int .i64 3, .int .i64 0]) (by simp [results, Try.results20, go_sem, *]) rfl ?_
      exact ⟨by rw [E1.out, E.out], (HB.out.setCell (p := ⟨w.heap.size, 0, none⟩) (Nat.le_refl _) _).setCell (p := ⟨w.heap.size, 1, none⟩) (Nat.le_refl _) _⟩
    · have E : Hid (endR l m = (endN l m : Int)) := Hid.mk' (by unfold endR; rw [if_pos h2, Int.toNat_natCast])
      have E1 := Hid.mk' h2
      have e1 : (decide ((m : Int) ≥ 0) && decide ((m : Int) < (l.length : Int))) = true := by simp; omega
      rw [e1] at KH
      have KE := Hid.mk' (end_any W W.heap.size w1.heap.size l pa ca _ _ m W2 HT2.out hm (by omega))
      have HR := Hid.mk' R1
      clear h1 h2 e1 h0 b0 b1 b2 f0 f1 R1
      go_wp2_with fail
      clear hW2
      refine KH.out.mono ?_
      rintro e w2 ⟨rfl, hw⟩
      obtain rfl := hw.symm
      go_wp2_with fail
      refine KE.out.mono ?_
      rintro e w3 ⟨rfl, hb⟩
      have R3 := rowB HR.out hb
      obtain ⟨b0, b1, b2⟩ := cells2 R3
      have f0 := R3.frozen 0
      have f1 := R3.frozen 1
      have HB := Hid.mk' (HB.out.trans (hb.mono HB.out.size))
      clear hb KE R3
      go_wp2
      refine bodyPost_ret (v := .agg #[.int .i64 0, .int .i64 (endN l m : Int)]) (by simp [results, Try.results20, go_sem, *]) rfl ?_
      exact ⟨by rw [E1.out, E.out], (HB.out.setCell (p := ⟨w.heap.size, 0, none⟩) (Nat.le_refl _) _).setCell (p := ⟨w.heap.size, 1, none⟩) (Nat.le_refl _) _⟩

end Go.Proofs.Ytphilngnkigcfaa
