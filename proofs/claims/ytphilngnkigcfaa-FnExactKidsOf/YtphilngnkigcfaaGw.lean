/- Both sides' KidsOf. -/
import Derived.Test.YtphilngnkigcfaaGu
namespace Go.Proofs.Ytphilngnkigcfaa
open Go.RowKit
set_option linter.unusedVariables false
set_option linter.unusedSimpArgs false

/-- What KidsOf leaves. -/
def KidP (l : List ND) (x : Int) (w : World) (e : Ending) (w' : World) : Prop := ∃ v, e = .returned (.agg #[.int .i64 (kidC l x), v]) ∧ OI w' v (kidL l x) ∧ (∀ k, v.ownBlock = some k → w.heap.size ≤ k) ∧ Below w.heap.size w w'

theorem kid_cases (l : List ND) (x : Int) : (¬ treeF l = 0 ∧ kidC l x = treeF l ∧ kidL l x = []) ∨ (treeF l = 0 ∧ ¬ (-1 ≤ x ∧ x < (l.length : Int)) ∧ kidC l x = 3 ∧ kidL l x = []) ∨ (treeF l = 0 ∧ (-1 ≤ x ∧ x < (l.length : Int)) ∧ kidC l x = 0 ∧ kidL l x = kidsU (upF l) x l.length) := by
  by_cases h : treeF l = 0
  · by_cases h2 : -1 ≤ x ∧ x < (l.length : Int)
    · have e : kidC l x = 0 := by unfold kidC; rw [if_pos h, if_pos h2]
      exact .inr (.inr ⟨h, h2, e, by unfold kidL; rw [if_pos e]⟩)
    · have e : kidC l x = 3 := by unfold kidC; rw [if_pos h, if_neg h2]
      exact .inr (.inl ⟨h, h2, e, by unfold kidL; rw [e]; rfl⟩)
  · have e : kidC l x = treeF l := by unfold kidC; rw [if_neg h]
    exact .inl ⟨h, e, by unfold kidL; rw [e, if_neg h]⟩

theorem kid_nil {l : List ND} {x c : Int} {w w' : World} (h1 : kidC l x = c) (h2 : kidL l x = []) (hb : Below w.heap.size w w') : KidP l x w (.returned (.agg #[.int .i64 c, .slice none 0 0])) w' :=
  ⟨_, by rw [h1], by rw [h2]; exact .inl ⟨rfl, rfl⟩, fun k e => by simp [Value.ownBlock] at e, hb⟩

theorem OI.set {w : World} {v u : Value} {l : List Int} {g j : Nat} (h : OI w v l) (hg : ¬ v.ownBlock = some g) : OI (w.setCell ⟨g, j, none⟩ u) v l :=
  h.keep fun k e hl => Below.heap_setCell _ _ _ _ (fun e' => hg (by rw [e, e']))

theorem kid_own {l : List ND} {x : Int} {w w1 : World} {v u0 u1 : Value} {base : Nat} (h1 : kidC l x = 0) (h2 : kidL l x = kidsU (upF l) x l.length) (ho : w1.ownsRow base 2 1 v (kidsU (upF l) x l.length).length (ics (kidsU (upF l) x l.length))) (hbase : w.heap.size < base) (hb : Below w.heap.size w w1) :
    KidP l x w (.returned (.agg #[.int .i64 0, v])) ((w1.setCell ⟨w.heap.size, 0, none⟩ u0).setCell ⟨w.heap.size, 1, none⟩ u1) := by
  have hne : ¬ v.ownBlock = some w.heap.size := fun e => by have := own_lo ho _ e; omega
  exact ⟨v, by rw [h1], by rw [h2]; exact ((OI.of_own ho).set hne).set hne, fun k e => by have := own_lo ho _ e; omega, (hb.setCell (p := ⟨w.heap.size, 0, none⟩) (Nat.le_refl _) _).setCell (p := ⟨w.heap.size, 1, none⟩) (Nat.le_refl _) _⟩

set_option maxHeartbeats 3200000 in
theorem specKids_any (a : Option Addr) (c : Nat) (l : List ND) (x : Int) (w : World) (ha : NsAt w a l) (hl : (l.length : Int) + nssz l ≤ 1048576) :
    Calls Try.prog 21 #[.slice a l.length c, .int .i64 x] w fun e w' => KidP l x w e w' := by
  have N0 := below_new w (.cells #[.int .i64 0, .slice none 0 0] 37)
  have KF := l6Fault_any a c l _ (ha.below N0) hl
  have RB := Hid.mk' (rowp2 w 37 (.int .i64 0) (.slice none 0 0))
  have HN := Hid.mk' N0
  have HA := Hid.mk' (ha.below N0)
  have KI : Hid (∀ w', Calls Try.prog 40 #[.int .i64 x, .int .i64 (-1), .int .i64 ((l.length : Int) - 1)] w' fun e w'' => e = .returned (.bool (decide (-1 ≤ x) && decide (x ≤ (l.length : Int) - 1))) ∧ w'' = w') := fun w' => l1In_any x (-1) ((l.length : Int) - 1) w'
  have hsz : (w.alloc (.cells #[.int .i64 0, .slice none 0 0] 37)).heap.size = w.heap.size + 1 := by simp
  have HS := Hid.mk' hsz
  clear ha N0 hsz
  generalize hW : w.alloc (.cells #[.int .i64 0, .slice none 0 0] 37) = W at *
  rcases kid_cases l x with ⟨h1, h2, h3⟩ | ⟨h1, h2, h3, h4⟩ | ⟨h1, h2, h3, h4⟩
  · have KF := Hid.mk' KF
    have E2 := Hid.mk' h2
    have E3 := Hid.mk' h3
    clear h2 h3
    go_enter Try.func21, Try.ntmps21
    go_wp2_with fail
    clear hW
    refine KF.out.mono ?_
    rintro e w1 ⟨rfl, hb⟩
    have R1 := rowB RB.out hb
    have HB := Hid.mk' (HN.out.trans (hb.mono HN.out.size))
    obtain ⟨b0, b1, b2⟩ := cells2 R1
    have f0 := R1.frozen 0
    have f1 := R1.frozen 1
    clear hb KF R1
    go_wp2
    refine bodyPost_ret (v := .agg #[.int .i64 (treeF l), .slice none 0 0]) (by simp [results, Try.results21, go_sem, *]) rfl ?_
    exact kid_nil E2.out E3.out ((HB.out.setCell (p := ⟨w.heap.size, 0, none⟩) (Nat.le_refl _) _).setCell (p := ⟨w.heap.size, 1, none⟩) (Nat.le_refl _) _)
  · rw [h1] at KF
    have KF := Hid.mk' KF
    have E2 := Hid.mk' h3
    have E3 := Hid.mk' h4
    rw [show (decide (-1 ≤ x) && decide (x ≤ (l.length : Int) - 1)) = false by simp; omega] at KI
    clear h1 h2 h3 h4
    go_enter Try.func21, Try.ntmps21
    go_wp2_with fail
    clear hW
    refine KF.out.mono ?_
    rintro e w1 ⟨rfl, hb⟩
    have R1 := rowB RB.out hb
    have HB := Hid.mk' (HN.out.trans (hb.mono HN.out.size))
    obtain ⟨b0, b1, b2⟩ := cells2 R1
    have f0 := R1.frozen 0
    have f1 := R1.frozen 1
    clear hb KF R1
    go_wp2_with fail
    refine (KI.out _).mono ?_
    rintro e w2 ⟨rfl, hw⟩
    obtain rfl := hw.symm
    go_wp2
    refine bodyPost_ret (v := .agg #[.int .i64 3, .slice none 0 0]) (by simp [results, Try.results21, go_sem, *]) rfl ?_
    exact kid_nil E2.out E3.out ((HB.out.setCell (p := ⟨w.heap.size, 0, none⟩) (Nat.le_refl _) _).setCell (p := ⟨w.heap.size, 1, none⟩) (Nat.le_refl _) _)
  · have hle := treeF_len h1
    rw [h1] at KF
    have KF := Hid.mk' KF
    have E2 := Hid.mk' h3
    have E3 := Hid.mk' h4
    rw [show (decide (-1 ≤ x) && decide (x ≤ (l.length : Int) - 1)) = true by simp; omega] at KI
    clear h1 h2 h3 h4
    go_enter Try.func21, Try.ntmps21
    go_wp2_with fail
    clear hW
    refine KF.out.mono ?_
    rintro e w1 ⟨rfl, hb⟩
    have R1 := rowB RB.out hb
    have HB := Hid.mk' (HN.out.trans (hb.mono HN.out.size))
    have HC := Hid.mk' hb
    have HR := Hid.mk' R1
    clear hb KF R1
    go_wp2_with fail
    refine (KI.out _).mono ?_
    rintro e w2 ⟨rfl, hw⟩
    obtain rfl := hw.symm
    go_wp2_with fail
    refine (l6Kids_any a c l x w1 (HA.out.below HC.out) hle).mono ?_
    rintro e w3 ⟨v, rfl, ho, hb⟩
    have R3 := rowB HR.out hb
    obtain ⟨b0, b1, b2⟩ := cells2 R3
    have f0 := R3.frozen 0
    have f1 := R3.frozen 1
    have HB := Hid.mk' (HB.out.trans (hb.mono HB.out.size))
    have HO := Hid.mk' ho
    have SL : Hid (w.heap.size < w1.heap.size) := Hid.mk' (by have := HC.out.size; have := HS.out; omega)
    obtain ⟨av, cv, ev, _⟩ := own_len ho
    subst ev
    clear hb ho R3
    go_wp2
    refine bodyPost_ret (v := .agg #[.int .i64 0, .slice av (kidsU (upF l) x l.length).length cv]) (by simp [results, Try.results21, go_sem, *]) rfl ?_
    exact kid_own E2.out E3.out HO.out SL.out HB.out

set_option maxRecDepth 100000 in
set_option maxHeartbeats 3200000 in
theorem implKids_any (a : Option Addr) (c : Nat) (l : List ND) (x : Int) (w : World) (ha : NsAt w a l) (hl : (l.length : Int) + nssz l ≤ 1048576) :
    Calls Try.prog 22 #[.slice a l.length c, .int .i64 x] w fun e w' => KidP l x w e w' := by
  have N0 := below_new w (.cells #[.int .i64 0, .slice none 0 0] 37)
  have KF := Hid.mk' (treeOf_any a c l _ (ha.below N0) hl)
  have RB := Hid.mk' (rowp2 w 37 (.int .i64 0) (.slice none 0 0))
  have HN := Hid.mk' N0
  have hsz : (w.alloc (.cells #[.int .i64 0, .slice none 0 0] 37)).heap.size = w.heap.size + 1 := by simp
  have HS := Hid.mk' hsz
  clear ha N0 hsz
  generalize hW : w.alloc (.cells #[.int .i64 0, .slice none 0 0] 37) = W at *
  go_enter Try.func22, Try.ntmps22
  go_wp2_with fail
  clear hW
  refine KF.out.mono ?_
  rintro e w1 (⟨h0, rfl, hb⟩ | ⟨h0, pa, ca, g, vn, vw, rfl, hT⟩)
  · rcases kid_cases l x with ⟨h1, h2, h3⟩ | ⟨h1, _⟩ | ⟨h1, _⟩
    rotate_left
    · exact absurd h1 h0
    · exact absurd h1 h0
    have E2 := Hid.mk' h2
    have E3 := Hid.mk' h3
    have R1 := rowB RB.out hb
    have HB := Hid.mk' (HN.out.trans (hb.mono HN.out.size))
    obtain ⟨b0, b1, b2⟩ := cells2 R1
    have f0 := R1.frozen 0
    have f1 := R1.frozen 1
    clear hb KF R1 h2 h3
    go_wp2
    refine bodyPost_ret (v := .agg #[.int .i64 (treeF l), .slice none 0 0]) (by simp [results, Try.results22, go_sem, *]) rfl ?_
    have T := (HB.out.setCell (p := ⟨w.heap.size, 0, none⟩) (Nat.le_refl _) (.int .i64 (treeF l))).setCell (p := ⟨w.heap.size, 1, none⟩) (Nat.le_refl _) (.slice none 0 0)
    exact kid_nil E2.out E3.out (T.alloc T.size _)
  · have hle := treeF_len h0
    obtain ⟨an, cn, ev, _⟩ := own_len hT.on
    subst ev
    obtain ⟨aw, cw, ev, _⟩ := own_len hT.ow
    subst ev
    have N2 := below_new w1 (.cells #[.slice an l.length cn, .slice aw (wayU (upF l) l.length).length cw] 54)
    have HT2 := Hid.mk' (hT.rebox N2 (Nat.le_refl _) (rowp2 w1 54 (.slice an l.length cn) (.slice aw (wayU (upF l) l.length).length cw)))
    have R1 := rowB RB.out (hT.bl.trans (N2.mono hT.bl.size))
    have HR := Hid.mk' R1
    have HB := Hid.mk' (HN.out.trans ((hT.bl.trans (N2.mono hT.bl.size)).mono HN.out.size))
    have SL : Hid (w.heap.size < w1.heap.size) := Hid.mk' (by have := hT.bl.size; have := HS.out; omega)
    have Z2 : (w1.alloc (.cells #[.slice an l.length cn, .slice aw (wayU (upF l) l.length).length cw] 54)).heap.size = w1.heap.size + 1 := by simp
    have HZ := Hid.mk' Z2
    clear hT N2 KF Z2
    obtain ⟨b0, b1, b2⟩ := cells2 R1
    have f0 := R1.frozen 0
    have f1 := R1.frozen 1
    generalize hW2 : w1.alloc (.cells #[.slice an l.length cn, .slice aw (wayU (upF l) l.length).length cw] 54) = W2 at *
    obtain ⟨t0, t1, t2⟩ := cells2 HT2.out.box
    have KH := Hid.mk' (hasPlace_any w1.heap.size an l.length cn x W2 t0)
    rcases kid_cases l x with ⟨h1, _⟩ | ⟨h1, h2, h3, h4⟩ | ⟨h1, h2, h3, h4⟩
    · exact absurd h0 h1
    · have E2 := Hid.mk' h3
      have E3 := Hid.mk' h4
      have xm : ¬ x = -1 := by omega
      have xb : (x != -1) = true := by simp [xm]
      rw [show (decide (x ≥ 0) && decide (x < (l.length : Int))) = false by simp; omega] at KH
      clear h1 h2 h3 h4 h0 xm
      go_wp2_with (first | go_big_skip | (go_at_call 37; refine KH.out.mono ?_; rintro e w9 ⟨rfl, hw9⟩; obtain rfl := hw9.symm))
      clear hW2
      refine bodyPost_ret (v := .agg #[.int .i64 3, .slice none 0 0]) (by simp [results, Try.results22, go_sem, *]) rfl ?_
      exact kid_nil E2.out E3.out ((HB.out.setCell (p := ⟨w.heap.size, 0, none⟩) (Nat.le_refl _) _).setCell (p := ⟨w.heap.size, 1, none⟩) (Nat.le_refl _) _)
    · have E2 := Hid.mk' h3
      have E3 := Hid.mk' h4
      have KHH : Hid (∀ (hx : ¬ x = -1), Calls Try.prog 37 #[.pointer (some ⟨w1.heap.size, 0, none⟩), .int .i64 x] W2 fun e w' => e = .returned (.bool true) ∧ w' = W2) := fun hx => by
        have := KH.out
        rw [show (decide (x ≥ 0) && decide (x < (l.length : Int))) = true by simp; omega] at this
        exact this
      clear KH h1 h2 h3 h4 h0 b0 b1 b2 f0 f1 R1
      by_cases xm : x = -1
      · have xb : (x != -1) = false := by simp [xm]
        clear KHH xm
        go_wp2_with (first | go_big_skip | fail)
        clear hW2
        go_loopw [7, 30] (fun v i wr => ∃ k : Nat, k ≤ l.length ∧ i = .int .i64 k ∧ wr.ownsRow W2.heap.size 2 1 v (kidsU (upF l) x k).length (ics (kidsU (upF l) x k)) ∧ Below W2.heap.size W2 wr) (fun _ i _ => l.length - (intOf i).toNat)
        case atStart => exact ⟨0, Nat.zero_le _, rfl, ⟨rfl, .inl ⟨rfl, rfl⟩⟩, Below.refl _ _⟩
        case round =>
          obtain ⟨k, hk, rfl, hown, hbl⟩ := hrel
          have HO := Hid.mk' hown
          have HD := Hid.mk' hbl
          by_cases hlt : k < l.length
          · have ci : (k : Int) < (l.length : Int) := by omega
            obtain ⟨nb, cap, ev, _, nl, hnode⟩ := HT2.out.node (by omega)
            cases ev
            obtain ⟨d0, d1, d2, d3, d4⟩ := hnode k hlt
            obtain ⟨p9, n9, c9, hV⟩ := mkV_slice (ndK l k) l pa ca k
            rw [hV] at d2
            have e0 := (hbl.cell nl).trans d0
            have e1 := (hbl.cell nl).trans d1
            have e2 := (hbl.cell nl).trans d2
            have e3 := (hbl.cell nl).trans d3
            have e4 := (hbl.cell nl).trans d4
            have kl := kidsU_len (upF l) x k
            have V1 := below_new wr (.cells #[.int .i64 (mkK (ndK l k)), .string (mkS (ndK l k)), .slice p9 n9 c9, .int .i64 (ndK l k).up, .int .i64 (depU (upF l) k : Int)] 64)
            have R5 := Hid.mk' (row5 wr 64 (.int .i64 (mkK (ndK l k))) (.string (mkS (ndK l k))) (.slice p9 n9 c9) (.int .i64 (ndK l k).up) (.int .i64 (depU (upF l) k : Int)))
            have O1 := Hid.mk' (own_keep HO.out V1)
            have HD := Hid.mk' (HD.out.trans (V1.mono HD.out.size))
            clear hnode hown hbl d0 d1 d2 d3 d4 hV V1
            generalize hWn : wr.alloc (.cells #[.int .i64 (mkK (ndK l k)), .string (mkS (ndK l k)), .slice p9 n9 c9, .int .i64 (ndK l k).up, .int .i64 (depU (upF l) k : Int)] 64) = Wn at *
            obtain ⟨r0, r1, r2, r3_, r4_, r5_⟩ := cells5 R5.out
            by_cases e : (ndK l k).up = x
            · subst e
              have E : Hid (kidsU (upF l) (ndK l k).up (k + 1) = kidsU (upF l) (ndK l k).up k ++ [(k : Int)]) := Hid.mk' (by show _ ++ (if (ndK l k).up = _ then _ else _) = _; rw [if_pos rfl])
              have VB := below_new Wn (.cells #[.int .i64 (k : Int)] 2)
              have OV := Hid.mk' (own_keep O1.out VB)
              have NC := Hid.mk' (new_cells Wn 2 [.int .i64 (k : Int)] Wn.heap.size rfl)
              have HD := Hid.mk' (HD.out.trans (VB.mono HD.out.size))
              have SZ : Hid (W2.heap.size ≤ (Wn.alloc (.cells #[.int .i64 (k : Int)] 2)).heap.size) := Hid.mk' HD.out.size
              clear VB
              go_wp2_with (at_builtin; refine wpList_append_at _ rfl (.tmp 39) (.tmp 41) 35 rfl W2.heap.size 2 (.int .i64 0) 1 8 Try.underlying35 Try.info2 rfl (by decide) _ _ _ rfl OV.out _ 1 _ (ics [(k : Int)]) rfl (by simp [ics]) (.inr ⟨_, rfl, NC.out⟩) (ics_one _) (by unfold maxLen; omega) (by omega) SZ.out ?_; intro v' w3 ho hgr hat)
              have O2 : Hid (w3.ownsRow W2.heap.size 2 1 v' (kidsU (upF l) (ndK l k).up (k + 1)).length (ics (kidsU (upF l) (ndK l k).up (k + 1)))) := Hid.mk' (by
                rw [E.out, List.length_append]
                have : ics (kidsU (upF l) (ndK l k).up k ++ [(k : Int)]) = ics (kidsU (upF l) (ndK l k).up k) ++ ics [(k : Int)] := by simp [ics]
                rw [this]; exact ho)
              have B2 := Hid.mk' (HD.out.grown hgr SZ.out (own_lo OV.out))
              clear ho hgr hat
              go_roundw
              case rel => exact ⟨k + 1, by omega, by go_num, O2.out, B2.out⟩
              case measure => simp [intOf]; omega
            · have E : Hid (kidsU (upF l) x (k + 1) = kidsU (upF l) x k) := Hid.mk' (by show _ ++ (if (ndK l k).up = x then _ else _) = _; rw [if_neg e, List.append_nil])
              go_wp2
              go_roundw
              case rel => exact ⟨k + 1, by omega, by go_num, by rw [E.out]; exact O1.out, HD.out⟩
              case measure => simp [intOf]; omega
          · have ci : ¬ (k : Int) < (l.length : Int) := by omega
            have e : k = l.length := by omega
            subst e
            have R3 := rowB HR.out hbl
            obtain ⟨b0, b1, b2⟩ := cells2 R3
            have f0 := R3.frozen 0
            have f1 := R3.frozen 1
            obtain ⟨av, cv, ev, _⟩ := own_len hown
            subst ev
            have SL2 : Hid (w.heap.size < W2.heap.size) := Hid.mk' (by have := SL.out; have := HZ.out; omega)
            have HB := Hid.mk' (HB.out.trans (hbl.mono HB.out.size))
            clear R3 hown hbl
            go_wp2
            refine bodyPost_ret (v := .agg #[.int .i64 0, .slice av (kidsU (upF l) x l.length).length cv]) (by simp [results, Try.results22, go_sem, *]) rfl ?_
            exact kid_own E2.out E3.out HO.out SL2.out HB.out
      · have xb : (x != -1) = true := by simp [xm]
        have KH := Hid.mk' (KHH.out xm)
        clear KHH xm
        go_wp2_with (first | go_big_skip | (go_at_call 37; refine KH.out.mono ?_; rintro e w9 ⟨rfl, hw9⟩; obtain rfl := hw9.symm))
        clear hW2
        go_loopw [7, 30] (fun v i wr => ∃ k : Nat, k ≤ l.length ∧ i = .int .i64 k ∧ wr.ownsRow W2.heap.size 2 1 v (kidsU (upF l) x k).length (ics (kidsU (upF l) x k)) ∧ Below W2.heap.size W2 wr) (fun _ i _ => l.length - (intOf i).toNat)
        case atStart => exact ⟨0, Nat.zero_le _, rfl, ⟨rfl, .inl ⟨rfl, rfl⟩⟩, Below.refl _ _⟩
        case round =>
          obtain ⟨k, hk, rfl, hown, hbl⟩ := hrel
          have HO := Hid.mk' hown
          have HD := Hid.mk' hbl
          by_cases hlt : k < l.length
          · have ci : (k : Int) < (l.length : Int) := by omega
            obtain ⟨nb, cap, ev, _, nl, hnode⟩ := HT2.out.node (by omega)
            cases ev
            obtain ⟨d0, d1, d2, d3, d4⟩ := hnode k hlt
            obtain ⟨p9, n9, c9, hV⟩ := mkV_slice (ndK l k) l pa ca k
            rw [hV] at d2
            have e0 := (hbl.cell nl).trans d0
            have e1 := (hbl.cell nl).trans d1
            have e2 := (hbl.cell nl).trans d2
            have e3 := (hbl.cell nl).trans d3
            have e4 := (hbl.cell nl).trans d4
            have kl := kidsU_len (upF l) x k
            have V1 := below_new wr (.cells #[.int .i64 (mkK (ndK l k)), .string (mkS (ndK l k)), .slice p9 n9 c9, .int .i64 (ndK l k).up, .int .i64 (depU (upF l) k : Int)] 64)
            have R5 := Hid.mk' (row5 wr 64 (.int .i64 (mkK (ndK l k))) (.string (mkS (ndK l k))) (.slice p9 n9 c9) (.int .i64 (ndK l k).up) (.int .i64 (depU (upF l) k : Int)))
            have O1 := Hid.mk' (own_keep HO.out V1)
            have HD := Hid.mk' (HD.out.trans (V1.mono HD.out.size))
            clear hnode hown hbl d0 d1 d2 d3 d4 hV V1
            generalize hWn : wr.alloc (.cells #[.int .i64 (mkK (ndK l k)), .string (mkS (ndK l k)), .slice p9 n9 c9, .int .i64 (ndK l k).up, .int .i64 (depU (upF l) k : Int)] 64) = Wn at *
            obtain ⟨r0, r1, r2, r3_, r4_, r5_⟩ := cells5 R5.out
            by_cases e : (ndK l k).up = x
            · subst e
              have E : Hid (kidsU (upF l) (ndK l k).up (k + 1) = kidsU (upF l) (ndK l k).up k ++ [(k : Int)]) := Hid.mk' (by show _ ++ (if (ndK l k).up = _ then _ else _) = _; rw [if_pos rfl])
              have VB := below_new Wn (.cells #[.int .i64 (k : Int)] 2)
              have OV := Hid.mk' (own_keep O1.out VB)
              have NC := Hid.mk' (new_cells Wn 2 [.int .i64 (k : Int)] Wn.heap.size rfl)
              have HD := Hid.mk' (HD.out.trans (VB.mono HD.out.size))
              have SZ : Hid (W2.heap.size ≤ (Wn.alloc (.cells #[.int .i64 (k : Int)] 2)).heap.size) := Hid.mk' HD.out.size
              clear VB
              go_wp2_with (at_builtin; refine wpList_append_at _ rfl (.tmp 39) (.tmp 41) 35 rfl W2.heap.size 2 (.int .i64 0) 1 8 Try.underlying35 Try.info2 rfl (by decide) _ _ _ rfl OV.out _ 1 _ (ics [(k : Int)]) rfl (by simp [ics]) (.inr ⟨_, rfl, NC.out⟩) (ics_one _) (by unfold maxLen; omega) (by omega) SZ.out ?_; intro v' w3 ho hgr hat)
              have O2 : Hid (w3.ownsRow W2.heap.size 2 1 v' (kidsU (upF l) (ndK l k).up (k + 1)).length (ics (kidsU (upF l) (ndK l k).up (k + 1)))) := Hid.mk' (by
                rw [E.out, List.length_append]
                have : ics (kidsU (upF l) (ndK l k).up k ++ [(k : Int)]) = ics (kidsU (upF l) (ndK l k).up k) ++ ics [(k : Int)] := by simp [ics]
                rw [this]; exact ho)
              have B2 := Hid.mk' (HD.out.grown hgr SZ.out (own_lo OV.out))
              clear ho hgr hat
              go_roundw
              case rel => exact ⟨k + 1, by omega, by go_num, O2.out, B2.out⟩
              case measure => simp [intOf]; omega
            · have E : Hid (kidsU (upF l) x (k + 1) = kidsU (upF l) x k) := Hid.mk' (by show _ ++ (if (ndK l k).up = x then _ else _) = _; rw [if_neg e, List.append_nil])
              go_wp2
              go_roundw
              case rel => exact ⟨k + 1, by omega, by go_num, by rw [E.out]; exact O1.out, HD.out⟩
              case measure => simp [intOf]; omega
          · have ci : ¬ (k : Int) < (l.length : Int) := by omega
            have e : k = l.length := by omega
            subst e
            have R3 := rowB HR.out hbl
            obtain ⟨b0, b1, b2⟩ := cells2 R3
            have f0 := R3.frozen 0
            have f1 := R3.frozen 1
            obtain ⟨av, cv, ev, _⟩ := own_len hown
            subst ev
            have SL2 : Hid (w.heap.size < W2.heap.size) := Hid.mk' (by have := SL.out; have := HZ.out; omega)
            have HB := Hid.mk' (HB.out.trans (hbl.mono HB.out.size))
            clear R3 hown hbl
            go_wp2
            refine bodyPost_ret (v := .agg #[.int .i64 0, .slice av (kidsU (upF l) x l.length).length cv]) (by simp [results, Try.results22, go_sem, *]) rfl ?_
            exact kid_own E2.out E3.out HO.out SL2.out HB.out

end Go.Proofs.Ytphilngnkigcfaa
