/- Both sides' KidsOf. -/
import Derived.Test.YtlaeomnacgjcgaaS21
import Derived.Test.YtlaeomnacgjcgaaS24
import Derived.Test.YtlaeomnacgjcgaaS16
set_option linter.unusedVariables false
set_option linter.unusedSimpArgs false
namespace Go.Proofs.Ytlaeomnacgjcgaa
open Go.RowKit

def KidP (l : List ND) (x : Int) (w : World) (e : Ending) (w' : World) : Prop := ∃ v, e = .returned (.agg #[.int .i64 (kidC l x), v]) ∧ OI w' v (kidL l x) ∧ (∀ k, v.ownBlock = some k → w.heap.size ≤ k) ∧ Below w.heap.size w w'

theorem kid_cases (l : List ND) (x : Int) : (¬ treeF l = 0 ∧ kidC l x = treeF l ∧ kidL l x = []) ∨ (treeF l = 0 ∧ ¬ (-1 ≤ x ∧ x < (l.length : Int)) ∧ kidC l x = 3 ∧ kidL l x = []) ∨ (treeF l = 0 ∧ (-1 ≤ x ∧ x < (l.length : Int)) ∧ kidC l x = 0 ∧ kidL l x = kidsU (upF l) x l.length) := by
  by_cases h : treeF l = 0
  · by_cases h2 : -1 ≤ x ∧ x < (l.length : Int)
    · have e : kidC l x = 0 := by unfold kidC; rw [if_pos h, if_pos h2]
      exact .inr (.inr ⟨h, h2, e, by unfold kidL; rw [if_pos e]⟩)
    · have e : kidC l x = 3 := by unfold kidC; rw [if_pos h, if_neg h2]
      exact .inr (.inl ⟨h, h2, e, by unfold kidL; rw [e]; rfl⟩)
  · have e : kidC l x = treeF l := by unfold kidC; rw [if_neg h]
    exact .inl ⟨h, e, by unfold kidL; rw [e, if_neg h]⟩

theorem kid_nil {l : List ND} {x c : Int} {w w' : World} (h1 : kidC l x = c) (h2 : kidL l x = []) (hb : Below w.heap.size w w') : KidP l x w (.returned (.agg #[.int .i64 c, .slice none 0 0])) w' :=
  ⟨_, by rw [h1], by rw [h2]; exact .inl ⟨rfl, rfl⟩, fun k e => by simp [Value.ownBlock] at e, hb⟩

theorem OI.set {w : World} {v u : Value} {l : List Int} {g j : Nat} (h : OI w v l) (hg : ¬ v.ownBlock = some g) : OI (w.setCell ⟨g, j, none⟩ u) v l :=
  h.keep fun k e hl => Below.heap_setCell _ _ _ _ (fun e' => hg (by rw [e, e']))

theorem kid_own {l : List ND} {x : Int} {w w1 : World} {v u0 u1 : Value} {base : Nat} (h1 : kidC l x = 0) (h2 : kidL l x = kidsU (upF l) x l.length) (ho : w1.ownsRow base 2 1 v (kidsU (upF l) x l.length).length (ics (kidsU (upF l) x l.length))) (hbase : w.heap.size < base) (hb : Below w.heap.size w w1) :
    KidP l x w (.returned (.agg #[.int .i64 0, v])) ((w1.setCell ⟨w.heap.size, 0, none⟩ u0).setCell ⟨w.heap.size, 1, none⟩ u1) := by
  have hne : ¬ v.ownBlock = some w.heap.size := fun e => by have := own_lo ho _ e; omega
  exact ⟨v, by rw [h1], by rw [h2]; exact ((OI.of_own ho).set hne).set hne, fun k e => by have := own_lo ho _ e; omega, (hb.setCell (p := ⟨w.heap.size, 0, none⟩) (Nat.le_refl _) _).setCell (p := ⟨w.heap.size, 1, none⟩) (Nat.le_refl _) _⟩

set_option maxHeartbeats 3200000 in
theorem specKids_any (a : Option Addr) (c : Nat) (l : List ND) (x : Int) (w : World) (ha : NsAt w a l) (hl : (l.length : Int) + nssz l ≤ 1048576) :
    Calls Try.prog 21 #[.slice a l.length c, .int .i64 x] w fun e w' => KidP l x w e w' := by
  have N0 := below_new w (.cells #[.int .i64 0, .slice none 0 0] 32)
  have KF := l6Fault_any a c l _ (ha.below N0) hl
  have RB := Hid.mk' (rowp2 w 32 (.int .i64 0) (.slice none 0 0))
  have HN := Hid.mk' N0
  have HA := Hid.mk' (ha.below N0)
  have KI : Hid (∀ w', Calls Try.prog 37 #[.int .i64 x, .int .i64 (-1), .int .i64 ((l.length : Int) - 1)] w' fun e w'' => e = .returned (.bool (decide (-1 ≤ x) && decide (x ≤ (l.length : Int) - 1))) ∧ w'' = w') := fun w' => l1In_any x (-1) ((l.length : Int) - 1) w'
  have hsz : (w.alloc (.cells #[.int .i64 0, .slice none 0 0] 32)).heap.size = w.heap.size + 1 := by simp
  have HS := Hid.mk' hsz
  clear ha N0 hsz
  generalize hW : w.alloc (.cells #[.int .i64 0, .slice none 0 0] 32) = W at *
  rcases kid_cases l x with ⟨h1, h2, h3⟩ | ⟨h1, h2, h3, h4⟩ | ⟨h1, h2, h3, h4⟩
  · have KF := Hid.mk' KF
    have E2 := Hid.mk' h2
    have E3 := Hid.mk' h3
    clear h2 h3
    go_enter Try.func21, Try.ntmps21
    go_wp2_with fail
    clear hW
    refine KF.out.mono ?_
    rintro e w1 ⟨rfl, hb⟩
    have R1 := rowB RB.out hb
    have HB := Hid.mk' (HN.out.trans (hb.mono HN.out.size))
    obtain ⟨b0, b1, b2⟩ := cells2 R1
    have f0 := R1.frozen 0
    have f1 := R1.frozen 1
    clear hb KF R1
    go_wp2
    refine bodyPost_ret (v := .agg #[.int .i64 (treeF l), .slice none 0 0]) (by simp [results, Try.results21, go_sem, *]) rfl ?_
    exact kid_nil E2.out E3.out ((HB.out.setCell (p := ⟨w.heap.size, 0, none⟩) (Nat.le_refl _) _).setCell (p := ⟨w.heap.size, 1, none⟩) (Nat.le_refl _) _)
  · rw [h1] at KF
    have KF := Hid.mk' KF
    have E2 := Hid.mk' h3
    have E3 := Hid.mk' h4
    rw [show (decide (-1 ≤ x) && decide (x ≤ (l.length : Int) - 1)) = false by simp; omega] at KI
    clear h1 h2 h3 h4
    go_enter Try.func21, Try.ntmps21
    go_wp2_with fail
    clear hW
    refine KF.out.mono ?_
    rintro e w1 ⟨rfl, hb⟩
    have R1 := rowB RB.out hb
    have HB := Hid.mk' (HN.out.trans (hb.mono HN.out.size))
    obtain ⟨b0, b1, b2⟩ := cells2 R1
    have f0 := R1.frozen 0
    have f1 := R1.frozen 1
    clear hb KF R1
    go_wp2_with fail
    refine (KI.out _).mono ?_
    rintro e w2 ⟨rfl, hw⟩
    obtain rfl := hw.symm
    go_wp2
    refine bodyPost_ret (v := .agg #[.int .i64 3, .slice none 0 0]) (by simp [results, Try.results21, go_sem, *]) rfl ?_
    exact kid_nil E2.out E3.out ((HB.out.setCell (p := ⟨w.heap.size, 0, none⟩) (Nat.le_refl _) _).setCell (p := ⟨w.heap.size, 1, none⟩) (Nat.le_refl _) _)
  · have hle := treeF_len h1
    rw [h1] at KF
    have KF := Hid.mk' KF
    have E2 := Hid.mk' h3
    have E3 := Hid.mk' h4
    rw [show (decide (-1 ≤ x) && decide (x ≤ (l.length : Int) - 1)) = true by simp; omega] at KI
    clear h1 h2 h3 h4
    go_enter Try.func21, Try.ntmps21
    go_wp2_with fail
    clear hW
    refine KF.out.mono ?_
    rintro e w1 ⟨rfl, hb⟩
    have R1 := rowB RB.out hb
    have HB := Hid.mk' (HN.out.trans (hb.mono HN.out.size))
    have HC := Hid.mk' hb
    have HR := Hid.mk' R1
    clear hb KF R1
    go_wp2_with fail
    refine (KI.out _).mono ?_
    rintro e w2 ⟨rfl, hw⟩
    obtain rfl := hw.symm
    go_wp2_with fail
    refine (l6Kids_any a c l x w1 (HA.out.below HC.out) hle).mono ?_
    rintro e w3 ⟨v, rfl, ho, hb⟩
    have R3 := rowB HR.out hb
    obtain ⟨b0, b1, b2⟩ := cells2 R3
    have f0 := R3.frozen 0
    have f1 := R3.frozen 1
    have HB := Hid.mk' (HB.out.trans (hb.mono HB.out.size))
    have HO := Hid.mk' ho
    have SL : Hid (w.heap.size < w1.heap.size) := Hid.mk' (by have := HC.out.size; have := HS.out; omega)
    obtain ⟨av, cv, ev, _⟩ := own_len ho
    subst ev
    clear hb ho R3
    go_wp2
    refine bodyPost_ret (v := .agg #[.int .i64 0, .slice av (kidsU (upF l) x l.length).length cv]) (by simp [results, Try.results21, go_sem, *]) rfl ?_
    exact kid_own E2.out E3.out HO.out SL.out HB.out

set_option maxRecDepth 100000 in
set_option maxHeartbeats 3200000 in
theorem implKids_any (a : Option Addr) (c : Nat) (l : List ND) (x : Int) (w : World) (ha : NsAt w a l) (hl : (l.length : Int) + nssz l ≤ 1048576) :
    Calls Try.prog 11 #[.slice a l.length c, .int .i64 x] w fun e w' => KidP l x w e w' := by
  have N0 := below_new w (.cells #[.int .i64 0, .slice none 0 0] 32)
  have KF := Hid.mk' (treeOf_any a c l _ (ha.below N0) hl)
  have RB := Hid.mk' (rowp2 w 32 (.int .i64 0) (.slice none 0 0))
  have HN := Hid.mk' N0
  have hsz : (w.alloc (.cells #[.int .i64 0, .slice none 0 0] 32)).heap.size = w.heap.size + 1 := by simp
  have HS := Hid.mk' hsz
  clear ha N0 hsz
  generalize hW : w.alloc (.cells #[.int .i64 0, .slice none 0 0] 32) = W at *
  go_enter Try.func11, Try.ntmps11
  go_wp2_with fail
  clear hW
  refine KF.out.mono ?_
  rintro e w1 (⟨h0, rfl, hb⟩ | ⟨h0, pa, ca, g, vn, vw, rfl, hT⟩)
  · rcases kid_cases l x with ⟨h1, h2, h3⟩ | ⟨h1, _⟩ | ⟨h1, _⟩
    rotate_left
    · exact absurd h1 h0
    · exact absurd h1 h0
    have E2 := Hid.mk' h2
    have E3 := Hid.mk' h3
    have R1 := rowB RB.out hb
    have HB := Hid.mk' (HN.out.trans (hb.mono HN.out.size))
    obtain ⟨b0, b1, b2⟩ := cells2 R1
    have f0 := R1.frozen 0
    have f1 := R1.frozen 1
    clear hb KF R1 h2 h3
    go_wp2
    refine bodyPost_ret (v := .agg #[.int .i64 (treeF l), .slice none 0 0]) (by simp [results, Try.results11, go_sem, *]) rfl ?_
    have T := (HB.out.setCell (p := ⟨w.heap.size, 0, none⟩) (Nat.le_refl _) (.int .i64 (treeF l))).setCell (p := ⟨w.heap.size, 1, none⟩) (Nat.le_refl _) (.slice none 0 0)
    exact kid_nil E2.out E3.out (T.alloc T.size _)
  · have hle := treeF_len h0
    obtain ⟨an, cn, ev, _⟩ := own_len hT.on
    subst ev
    obtain ⟨aw, cw, ev, _⟩ := own_len hT.ow
    subst ev
    have N2 := below_new w1 (.cells #[.slice an l.length cn, .slice aw (wayU (upF l) l.length).length cw] 47)
    have HT2 := Hid.mk' (hT.rebox N2 (Nat.le_refl _) (rowp2 w1 47 (.slice an l.length cn) (.slice aw (wayU (upF l) l.length).length cw)))
    have R1 := rowB RB.out (hT.bl.trans (N2.mono hT.bl.size))
    have HR := Hid.mk' R1
    have HB := Hid.mk' (HN.out.trans ((hT.bl.trans (N2.mono hT.bl.size)).mono HN.out.size))
    have SL : Hid (w.heap.size < w1.heap.size) := Hid.mk' (by have := hT.bl.size; have := HS.out; omega)
    have Z2 : (w1.alloc (.cells #[.slice an l.length cn, .slice aw (wayU (upF l) l.length).length cw] 47)).heap.size = w1.heap.size + 1 := by simp
    have HZ := Hid.mk' Z2
    clear hT N2 KF Z2
    obtain ⟨b0, b1, b2⟩ := cells2 R1
    have f0 := R1.frozen 0
    have f1 := R1.frozen 1
    generalize hW2 : w1.alloc (.cells #[.slice an l.length cn, .slice aw (wayU (upF l) l.length).length cw] 47) = W2 at *
    obtain ⟨t0, t1, t2⟩ := cells2 HT2.out.box
    have KH := Hid.mk' (hasPlace_any w1.heap.size an l.length cn x W2 t0)
    rcases kid_cases l x with ⟨h1, _⟩ | ⟨h1, h2, h3, h4⟩ | ⟨h1, h2, h3, h4⟩
    · exact absurd h0 h1
    · have E2 := Hid.mk' h3
      have E3 := Hid.mk' h4
      have xm : ¬ x = -1 := by omega
      have xb : (x != -1) = true := by simp [xm]
      rw [show (decide (x ≥ 0) && decide (x < (l.length : Int))) = false by simp; omega] at KH
      clear h1 h2 h3 h4 h0 xm
      go_wp2_with (first | go_big_skip | (go_at_call 25; refine KH.out.mono ?_; rintro e w9 ⟨rfl, hw9⟩; obtain rfl := hw9.symm))
      clear hW2
      refine bodyPost_ret (v := .agg #[.int .i64 3, .slice none 0 0]) (by simp [results, Try.results11, go_sem, *]) rfl ?_
      exact kid_nil E2.out E3.out ((HB.out.setCell (p := ⟨w.heap.size, 0, none⟩) (Nat.le_refl _) _).setCell (p := ⟨w.heap.size, 1, none⟩) (Nat.le_refl _) _)
    · have E2 := Hid.mk' h3
      have E3 := Hid.mk' h4
      have KHH : Hid (∀ (hx : ¬ x = -1), Calls Try.prog 25 #[.pointer (some ⟨w1.heap.size, 0, none⟩), .int .i64 x] W2 fun e w' => e = .returned (.bool true) ∧ w' = W2) := fun hx => by
        have := KH.out
        rw [show (decide (x ≥ 0) && decide (x < (l.length : Int))) = true by simp; omega] at this
        exact this
      clear KH h1 h2 h3 h4 h0 b0 b1 b2 f0 f1 R1
      by_cases xm : x = -1
      · have xb : (x != -1) = false := by simp [xm]
        clear KHH xm
        go_wp2_with (first | go_big_skip | fail)
        clear hW2
        go_loopw [7, 30] (fun v i wr => ∃ k : Nat, k ≤ l.length ∧ i = .int .i64 k ∧ wr.ownsRow W2.heap.size 2 1 v (kidsU (upF l) x k).length (ics (kidsU (upF l) x k)) ∧ Below W2.heap.size W2 wr) (fun _ i _ => l.length - (intOf i).toNat)
        case atStart => exact ⟨0, Nat.zero_le _, rfl, ⟨rfl, .inl ⟨rfl, rfl⟩⟩, Below.refl _ _⟩
        case round =>
          obtain ⟨k, hk, rfl, hown, hbl⟩ := hrel
          have HO := Hid.mk' hown
          have HD := Hid.mk' hbl
          by_cases hlt : k < l.length
          · have ci : (k : Int) < (l.length : Int) := by omega
            obtain ⟨nb, cap, ev, _, nl, hnode⟩ := HT2.out.node (by omega)
            cases ev
            obtain ⟨d0, d1, d2, d3, d4⟩ := hnode k hlt
            obtain ⟨p9, n9, c9, hV⟩ := mkV_slice (ndK l k) l pa ca k
            rw [hV] at d2
            have e0 := (hbl.cell nl).trans d0
            have e1 := (hbl.cell nl).trans d1
            have e2 := (hbl.cell nl).trans d2
            have e3 := (hbl.cell nl).trans d3
            have e4 := (hbl.cell nl).trans d4
            have kl := kidsU_len (upF l) x k
            have V1 := below_new wr (.cells #[.int .i64 (mkK (ndK l k)), .string (mkS (ndK l k)), .slice p9 n9 c9, .int .i64 (ndK l k).up, .int .i64 (depU (upF l) k : Int)] 58)
            have R5 := Hid.mk' (row5 wr 58 (.int .i64 (mkK (ndK l k))) (.string (mkS (ndK l k))) (.slice p9 n9 c9) (.int .i64 (ndK l k).up) (.int .i64 (depU (upF l) k : Int)))
            have O1 := Hid.mk' (own_keep HO.out V1)
            have HD := Hid.mk' (HD.out.trans (V1.mono HD.out.size))
            clear hnode hown hbl d0 d1 d2 d3 d4 hV V1
            generalize hWn : wr.alloc (.cells #[.int .i64 (mkK (ndK l k)), .string (mkS (ndK l k)), .slice p9 n9 c9, .int .i64 (ndK l k).up, .int .i64 (depU (upF l) k : Int)] 58) = Wn at *
            obtain ⟨r0, r1, r2, r3_, r4_, r5_⟩ := cells5 R5.out
            by_cases e : (ndK l k).up = x
            · subst e
              have E : Hid (kidsU (upF l) (ndK l k).up (k + 1) = kidsU (upF l) (ndK l k).up k ++ [(k : Int)]) := Hid.mk' (by show _ ++ (if (ndK l k).up = _ then _ else _) = _; rw [if_pos rfl])
              have VB := below_new Wn (.cells #[.int .i64 (k : Int)] 2)
              have OV := Hid.mk' (own_keep O1.out VB)
              have NC := Hid.mk' (new_cells Wn 2 [.int .i64 (k : Int)] Wn.heap.size rfl)
              have HD := Hid.mk' (HD.out.trans (VB.mono HD.out.size))
              have SZ : Hid (W2.heap.size ≤ (Wn.alloc (.cells #[.int .i64 (k : Int)] 2)).heap.size) := Hid.mk' HD.out.size
              clear VB
              go_wp2_with (at_builtin; refine wpList_append_at _ rfl (.tmp 39) (.tmp 41) 30 rfl W2.heap.size 2 (.int .i64 0) 1 8 Try.underlying30 Try.info2 rfl (by decide) _ _ _ rfl OV.out _ 1 _ (ics [(k : Int)]) rfl (by simp [ics]) (.inr ⟨_, rfl, NC.out⟩) (ics_one _) (by unfold maxLen; omega) (by omega) SZ.out ?_; intro v' w3 ho hgr hat)
              have O2 : Hid (w3.ownsRow W2.heap.size 2 1 v' (kidsU (upF l) (ndK l k).up (k + 1)).length (ics (kidsU (upF l) (ndK l k).up (k + 1)))) := Hid.mk' (by
                rw [E.out, List.length_append]
                have : ics (kidsU (upF l) (ndK l k).up k ++ [(k : Int)]) = ics (kidsU (upF l) (ndK l k).up k) ++ ics [(k : Int)] := by simp [ics]
                rw [this]; exact ho)
              have B2 := Hid.mk' (HD.out.grown hgr SZ.out (own_lo OV.out))
              clear ho hgr hat
              go_roundw
              case rel => exact ⟨k + 1, by omega, by go_num, O2.out, B2.out⟩
              case measure => simp [intOf]; omega
            · have E : Hid (kidsU (upF l) x (k + 1) = kidsU (upF l) x k) := Hid.mk' (by show _ ++ (if (ndK l k).up = x then _ else _) = _; rw [if_neg e, List.append_nil])
              go_wp2
              go_roundw
              case rel => exact ⟨k + 1, by omega, by go_num, by rw [E.out]; exact O1.out, HD.out⟩
              case measure => simp [intOf]; omega
          · have ci : ¬ (k : Int) < (l.length : Int) := by omega
            have e : k = l.length := by omega
            subst e
            have R3 := rowB HR.out hbl
            obtain ⟨b0, b1, b2⟩ := cells2 R3
            have f0 := R3.frozen 0
            have f1 := R3.frozen 1
            obtain ⟨av, cv, ev, _⟩ := own_len hown
            subst ev
            have SL2 : Hid (w.heap.size < W2.heap.size) := Hid.mk' (by have := SL.out; have := HZ.out; omega)
            have HB := Hid.mk' (HB.out.trans (hbl.mono HB.out.size))
            clear R3 hown hbl
            go_wp2
            refine bodyPost_ret (v := .agg #[.int .i64 0, .slice av (kidsU (upF l) x l.length).length cv]) (by simp [results, Try.results11, go_sem, *]) rfl ?_
            exact kid_own E2.out E3.out HO.out SL2.out HB.out
      · have xb : (x != -1) = true := by simp [xm]
        have KH := Hid.mk' (KHH.out xm)
        clear KHH xm
        go_wp2_with (first | go_big_skip | (go_at_call 25; refine KH.out.mono ?_; rintro e w9 ⟨rfl, hw9⟩; obtain rfl := hw9.symm))
        clear hW2
        go_loopw [7, 30] (fun v i wr => ∃ k : Nat, k ≤ l.length ∧ i = .int .i64 k ∧ wr.ownsRow W2.heap.size 2 1 v (kidsU (upF l) x k).length (ics (kidsU (upF l) x k)) ∧ Below W2.heap.size W2 wr) (fun _ i _ => l.length - (intOf i).toNat)
        case atStart => exact ⟨0, Nat.zero_le _, rfl, ⟨rfl, .inl ⟨rfl, rfl⟩⟩, Below.refl _ _⟩
        case round =>
          obtain ⟨k, hk, rfl, hown, hbl⟩ := hrel
          have HO := Hid.mk' hown
          have HD := Hid.mk' hbl
          by_cases hlt : k < l.length
          · have ci : (k : Int) < (l.length : Int) := by omega
            obtain ⟨nb, cap, ev, _, nl, hnode⟩ := HT2.out.node (by omega)
            cases ev
            obtain ⟨d0, d1, d2, d3, d4⟩ := hnode k hlt
            obtain ⟨p9, n9, c9, hV⟩ := mkV_slice (ndK l k) l pa ca k
            rw [hV] at d2
            have e0 := (hbl.cell nl).trans d0
            have e1 := (hbl.cell nl).trans d1
            have e2 := (hbl.cell nl).trans d2
            have e3 := (hbl.cell nl).trans d3
            have e4 := (hbl.cell nl).trans d4
            have kl := kidsU_len (upF l) x k
            have V1 := below_new wr (.cells #[.int .i64 (mkK (ndK l k)), .string (mkS (ndK l k)), .slice p9 n9 c9, .int .i64 (ndK l k).up, .int .i64 (depU (upF l) k : Int)] 58)
            have R5 := Hid.mk' (row5 wr 58 (.int .i64 (mkK (ndK l k))) (.string (mkS (ndK l k))) (.slice p9 n9 c9) (.int .i64 (ndK l k).up) (.int .i64 (depU (upF l) k : Int)))
            have O1 := Hid.mk' (own_keep HO.out V1)
            have HD := Hid.mk' (HD.out.trans (V1.mono HD.out.size))
            clear hnode hown hbl d0 d1 d2 d3 d4 hV V1
            generalize hWn : wr.alloc (.cells #[.int .i64 (mkK (ndK l k)), .string (mkS (ndK l k)), .slice p9 n9 c9, .int .i64 (ndK l k).up, .int .i64 (depU (upF l) k : Int)] 58) = Wn at *
            obtain ⟨r0, r1, r2, r3_, r4_, r5_⟩ := cells5 R5.out
            by_cases e : (ndK l k).up = x
            · subst e
              have E : Hid (kidsU (upF l) (ndK l k).up (k + 1) = kidsU (upF l) (ndK l k).up k ++ [(k : Int)]) := Hid.mk' (by show _ ++ (if (ndK l k).up = _ then _ else _) = _; rw [if_pos rfl])
              have VB := below_new Wn (.cells #[.int .i64 (k : Int)] 2)
              have OV := Hid.mk' (own_keep O1.out VB)
              have NC := Hid.mk' (new_cells Wn 2 [.int .i64 (k : Int)] Wn.heap.size rfl)
              have HD := Hid.mk' (HD.out.trans (VB.mono HD.out.size))
              have SZ : Hid (W2.heap.size ≤ (Wn.alloc (.cells #[.int .i64 (k : Int)] 2)).heap.size) := Hid.mk' HD.out.size
              clear VB
              go_wp2_with (at_builtin; refine wpList_append_at _ rfl (.tmp 39) (.tmp 41) 30 rfl W2.heap.size 2 (.int .i64 0) 1 8 Try.underlying30 Try.info2 rfl (by decide) _ _ _ rfl OV.out _ 1 _ (ics [(k : Int)]) rfl (by simp [ics]) (.inr ⟨_, rfl, NC.out⟩) (ics_one _) (by unfold maxLen; omega) (by omega) SZ.out ?_; intro v' w3 ho hgr hat)
              have O2 : Hid (w3.ownsRow W2.heap.size 2 1 v' (kidsU (upF l) (ndK l k).up (k + 1)).length (ics (kidsU (upF l) (ndK l k).up (k + 1)))) := Hid.mk' (by
                rw [E.out, List.length_append]
                have : ics (kidsU (upF l) (ndK l k).up k ++ [(k : Int)]) = ics (kidsU (upF l) (ndK l k).up k) ++ ics [(k : Int)] := by simp [ics]
                rw [this]; exact ho)
              have B2 := Hid.mk' (HD.out.grown hgr SZ.out (own_lo OV.out))
              clear ho hgr hat
              go_roundw
              case rel => exact ⟨k + 1, by omega, by go_num, O2.out, B2.out⟩
              case measure => simp [intOf]; omega
            · have E : Hid (kidsU (upF l) x (k + 1) = kidsU (upF l) x k) := Hid.mk' (by show _ ++ (if (ndK l k).up = x then _ else _) = _; rw [if_neg e, List.append_nil])
              go_wp2
              go_roundw
              case rel => exact ⟨k + 1, by omega, by go_num, by rw [E.out]; exact O1.out, HD.out⟩
              case measure => simp [intOf]; omega
          · have ci : ¬ (k : Int) < (l.length : Int) := by omega
            have e : k = l.length := by omega
            subst e
            have R3 := rowB HR.out hbl
            obtain ⟨b0, b1, b2⟩ := cells2 R3
            have f0 := R3.frozen 0
            have f1 := R3.frozen 1
            obtain ⟨av, cv, ev, _⟩ := own_len hown
            subst ev
            have SL2 : Hid (w.heap.size < W2.heap.size) := Hid.mk' (by have := SL.out; have := HZ.out; omega)
            have HB := Hid.mk' (HB.out.trans (hbl.mono HB.out.size))
            clear R3 hown hbl
            go_wp2
            refine bodyPost_ret (v := .agg #[.int .i64 0, .slice av (kidsU (upF l) x l.length).length cv]) (by simp [results, Try.results11, go_sem, *]) rfl ?_
            exact kid_own E2.out E3.out HO.out SL2.out HB.out

end Go.Proofs.Ytlaeomnacgjcgaa

namespace Go.Proofs.Ytlaeomnacgjcgaa
open Go.RowKit

theorem up_range {l : List ND} (h : treeF l = 0) {k : Nat} (hk : k < l.length) : -1 ≤ upF l k ∧ upF l k < (k : Int) := by
  have hw := treeF_ways h
  have hd := hw k hk
  have G : GoodW (upF l) k (wayU (upF l) k) := Ways.good (fun j hj => hw j (by omega))
  have e : wv (wayU (upF l) k) (depU (upF l) k) = upF l k := ixF_at hd
  have h1 := G.lo hd
  have h2 := G.hi hd
  rw [e] at h1 h2
  exact ⟨h1, h2⟩

theorem kidsU_mem (u : Nat → Int) (x : Int) : ∀ (k : Nat) (y : Int), y ∈ kidsU u x k → ∃ j : Nat, y = (j : Int) ∧ j < k ∧ u j = x
  | 0, y, h => by simp [kidsU] at h
  | k + 1, y, h => by
    unfold kidsU at h
    rcases List.mem_append.1 h with h | h
    · obtain ⟨j, h1, h2, h3⟩ := kidsU_mem u x k y h
      exact ⟨j, h1, by omega, h3⟩
    · split at h
      · rename_i hu
        simp at h
        exact ⟨k, h, by omega, hu⟩
      · simp at h

def sumK (u : Nat → Int) (n : Nat) : Nat → Nat
  | 0 => 0
  | m + 1 => sumK u n m + (kidsU u ((m : Int) - 1) n).length

theorem sumK_succ (u : Nat → Int) (n : Nat) : ∀ M : Nat, sumK u (n + 1) M = sumK u n M + (if -1 ≤ u n ∧ u n < (M : Int) - 1 then 1 else 0)
  | 0 => by
    rw [if_neg (by omega)]; rfl
  | M + 1 => by
    have ih := sumK_succ u n M
    show sumK u (n + 1) M + (kidsU u ((M : Int) - 1) (n + 1)).length = sumK u n M + (kidsU u ((M : Int) - 1) n).length + _
    rw [ih]
    have e : (kidsU u ((M : Int) - 1) (n + 1)).length = (kidsU u ((M : Int) - 1) n).length + (if u n = (M : Int) - 1 then 1 else 0) := by
      show (kidsU u ((M : Int) - 1) n ++ (if u n = (M : Int) - 1 then [(n : Int)] else [])).length = _
      split <;> simp
    rw [e]
    by_cases c : u n = (M : Int) - 1
    · rw [if_pos c, if_neg (by omega), if_pos (by omega)]; omega
    · rw [if_neg c]
      by_cases c2 : -1 ≤ u n ∧ u n < (M : Int) - 1
      · rw [if_pos c2, if_pos (by omega)]; omega
      · rw [if_neg c2, if_neg (by omega)]; omega

theorem sumK_all (u : Nat → Int) (M : Nat) : ∀ n : Nat, (∀ k, k < n → -1 ≤ u k ∧ u k < (M : Int) - 1) → sumK u n M = n
  | 0, _ => by
    have : ∀ m, sumK u 0 m = 0 := fun m => by
      induction m with
      | zero => rfl
      | succ m ih => show sumK u 0 m + 0 = 0; rw [ih]
    exact this M
  | n + 1, h => by
    rw [sumK_succ, sumK_all u M n (fun k hk => h k (by omega)), if_pos (h n (by omega))]

theorem sumK_mono (u : Nat → Int) (n : Nat) {m M : Nat} (h : m ≤ M) : sumK u n m ≤ sumK u n M := by
  induction h with
  | refl => exact Nat.le_refl _
  | step _ ih => exact Nat.le_trans ih (Nat.le_add_right _ _)

theorem lwBytesT (a a' : Option Addr) (c c' : Nat) (l : List Int) (w : World) (h : BAt w a l) (h' : BAt w a' l) :
    Calls Try.prog 18 #[.slice a l.length c, .slice a' l.length c'] w fun e w' => e = .returned (.bool true) ∧ w' = w := by
  have c1 := conv_bytesT c h
  have c2 := conv_bytesT c' h'
  clear h h'
  go_enter Try.func18, Try.ntmps18
  go_wp2
  go_ret
  exact ⟨by simp, rfl⟩

set_option maxRecDepth 100000 in
set_option maxHeartbeats 1000000 in
theorem drawDepth_any (q : Option Addr) (c' : Nat) (l : List Int) (w : World) (hd : BAt w q l) (hu : Byt l) (hl : (l.length : Int) ≤ 1048576) :
    Calls Try.prog 12 #[.slice q l.length c'] w fun e w' => DrN w e w' := by
  have KS := Hid.mk' (drawKids_any q c' l w hd hu hl)
  clear hd hu
  go_enter Try.func12, Try.ntmps12
  go_wp2_with fail
  refine KS.out.mono ?_
  rintro e w1 ⟨nd, p, c, x, rfl, hD⟩
  have HD := Hid.mk' hD
  clear hD KS
  go_wp2_with fail
  refine bodyPost_ret (v := .tuple #[.slice p nd.length c, .int .i64 x]) (by simp [results, Try.results12, go_sem, *]) rfl ?_
  exact ⟨nd, p, c, x, rfl, HD.out⟩

def DrM (w : World) (e : Ending) (w' : World) : Prop :=
  ∃ (nd : List ND) (p : Option Addr) (c : Nat), e = .returned (.slice p nd.length c) ∧ NsAt w' p nd ∧ nd.length + nssz nd ≤ 4000 ∧ Below w.heap.size w w'

set_option maxRecDepth 100000 in
set_option maxHeartbeats 4000000 in
theorem drawText_any (q : Option Addr) (c' : Nat) (l : List Int) (w : World) (hd : BAt w q l) (hu : Byt l) (hl : (l.length : Int) ≤ 1048576) :
    Calls Try.prog 13 #[.slice q l.length c'] w fun e w' => DrM w e w' := by
  have KS := Hid.mk' (l1Source_any q c' l w hd (fun i hi => ⟨(hu i hi).1, by have := (hu i hi).2; omega⟩))
  clear hd hu
  go_enter Try.func13, Try.ntmps13
  go_wp2_with fail
  refine KS.out.mono ?_
  rintro e w1 ⟨rfl, hS, hB⟩
  obtain ⟨b, hb⟩ : ∃ b, w.heap.size = b := ⟨_, rfl⟩
  rw [hb] at hS
  try rw [hb]
  have lb : b < w1.heap.size := hS.lt
  have KB := Hid.mk' (l6Bent_any b 0 l w1 hS (by omega) hl)
  have HB := Hid.mk' hB
  clear hS hB KS
  go_wp2_with fail
  refine KB.out.mono ?_
  rintro e w2 ⟨nd, τ, p, c, va, vt, us, lo, k', rfl, hN, hlo, hlo2, hsz, hk, hS, hK⟩
  obtain ⟨a, c2, ea, hna⟩ := hN.nq.at
  injection ea with ea1 _ _
  subst ea1
  have BL := Hid.mk' (HB.out.trans (hK.below (by omega) (by rw [hb] at *; have := HB.out.size; omega)))
  have NA := Hid.mk' hna
  clear hN hK hS KB hna
  go_wp2_with fail
  go_ret
  exact ⟨nd, _, _, rfl, NA.out, hsz, BL.out⟩

abbrev names8 : Array Value := #[.string ⟨#[112]⟩, .string ⟨#[98]⟩, .string ⟨#[105]⟩, .string ⟨#[97]⟩, .string ⟨#[98, 114]⟩, .string ⟨#[105, 109, 103]⟩, .string ⟨#[117]⟩, .string ⟨#[115, 99, 114, 105, 112, 116]⟩]

theorem names8_at (w : World) (i : Nat) (hi : i < 8) : ∃ t : ByteArray, (w.alloc (.cells names8 9)).cell? ⟨w.heap.size, i, none⟩ = some (.string t) ∧ t.size ≤ 6 := by
  have : i = 0 ∨ i = 1 ∨ i = 2 ∨ i = 3 ∨ i = 4 ∨ i = 5 ∨ i = 6 ∨ i = 7 := by omega
  rcases this with rfl | rfl | rfl | rfl | rfl | rfl | rfl | rfl <;> exact ⟨_, by simp [names8]; rfl, by decide⟩

set_option maxRecDepth 100000 in
set_option maxHeartbeats 4000000 in
theorem l4DrawName_any (b k : Nat) (l : List Int) (w : World) (h : Src b l k w) (hk : k ≤ 10000) (hl : (l.length : Int) ≤ 1048576) :
    Calls Try.prog 32 #[.pointer (some ⟨b, 0, none⟩)] w fun e w' => ∃ t : ByteArray, e = .returned (.string t) ∧ t.size ≤ 6 ∧ Src b l (k + 1) w' ∧ KeptIn b (b + 1) w w' := by
  have hlt := h.lt
  have NB := below_new w (.cells names8 9)
  have K := Hid.mk' (l1Next_any b k l 8 _ (h.below NB) (by omega) (by decide) (by decide) hl)
  have HN := Hid.mk' NB
  have W8 := Hid.mk' (names8_at w)
  clear h NB
  go_enter Try.func32, Try.ntmps32
  go_wp2_with fail
  refine K.out.mono ?_
  rintro e w1 ⟨x, rfl, x0, x1, hS1, hK1⟩
  obtain ⟨i, rfl⟩ : ∃ i : Nat, x = (i : Int) := ⟨x.toNat, by omega⟩
  have il : i < 8 := by omega
  obtain ⟨t, ht, htl⟩ := W8.out i il
  have hc : w1.cell? ⟨w.heap.size, i, none⟩ = some (.string t) := (hK1.cell (p := ⟨w.heap.size, i, none⟩) (by simp) (show w.heap.size < b ∨ b + 1 ≤ w.heap.size by omega)).trans ht
  have HS1 := Hid.mk' hS1
  have HK1 := Hid.mk' ((KeptIn.of_below HN.out).trans hK1)
  clear K hS1 hK1 ht W8
  go_wp2_with fail
  go_ret
  exact ⟨t, rfl, htl, HS1.out, HK1.out⟩

set_option maxRecDepth 100000 in
set_option maxHeartbeats 4000000 in
theorem drawVoid_any (q : Option Addr) (c' : Nat) (l : List Int) (w : World) (hd : BAt w q l) (hu : Byt l) (hl : (l.length : Int) ≤ 1048576) :
    Calls Try.prog 14 #[.slice q l.length c'] w fun e w' => ∃ t : ByteArray, e = .returned (.string t) ∧ Below w.heap.size w w' := by
  have KS := Hid.mk' (l1Source_any q c' l w hd (fun i hi => ⟨(hu i hi).1, by have := (hu i hi).2; omega⟩))
  clear hd hu
  go_enter Try.func14, Try.ntmps14
  go_wp2_with fail
  refine KS.out.mono ?_
  rintro e w1 ⟨rfl, hS, hB⟩
  have lb : w.heap.size < w1.heap.size := hS.lt
  have KB := Hid.mk' (l4DrawName_any w.heap.size 0 l w1 hS (by omega) hl)
  have HB := Hid.mk' hB
  clear hS hB KS
  go_wp2_with fail
  refine KB.out.mono ?_
  rintro e w2 ⟨t, rfl, _, _, hK⟩
  have BL := Hid.mk' (HB.out.trans (hK.below (Nat.le_refl _) (by have := HB.out.size; omega)))
  clear hK KB
  go_wp2_with fail
  go_ret
  exact ⟨t, rfl, BL.out⟩

end Go.Proofs.Ytlaeomnacgjcgaa

namespace Go.Proofs.Ytlaeomnacgjcgaa
open Go.RowKit

theorem fK0 (a b : Int) (w : World) : (Instr.field 28 (.agg #[.int .i64 a, .int .i64 b]) 0).run Try.prog w = .ok (.int .i64 a) w := by kernel_rfl
theorem fK1 (a b : Int) (w : World) : (Instr.field 28 (.agg #[.int .i64 a, .int .i64 b]) 1).run Try.prog w = .ok (.int .i64 b) w := by kernel_rfl
theorem fK2 (a : Int) (p : Option Addr) (n c : Nat) (w : World) : (Instr.field 37 (.agg #[.int .i64 a, .slice p n c]) 0).run Try.prog w = .ok (.int .i64 a) w := by kernel_rfl
theorem fK3 (a : Int) (p : Option Addr) (n c : Nat) (w : World) : (Instr.field 37 (.agg #[.int .i64 a, .slice p n c]) 1).run Try.prog w = .ok (.slice p n c) w := by kernel_rfl
theorem fK4 (a : Int) (p : Option Addr) (n c : Nat) (w : World) : (Instr.field 32 (.agg #[.int .i64 a, .slice p n c]) 0).run Try.prog w = .ok (.int .i64 a) w := by kernel_rfl
theorem fK5 (a : Int) (p : Option Addr) (n c : Nat) (w : World) : (Instr.field 32 (.agg #[.int .i64 a, .slice p n c]) 1).run Try.prog w = .ok (.slice p n c) w := by kernel_rfl

set_option maxRecDepth 100000 in
set_option maxHeartbeats 16000000 in
theorem lawNK_any (q : Option Addr) (c' : Nat) (l : List Int) (w : World) (hd : BAt w q l) (hu : Byt l) (hl : (l.length : Int) ≤ 9223372036854775807) :
    Calls Try.prog 4 #[.slice q l.length c'] w fun e w' => e = .returned (.bool true) ∧ Below w.heap.size w w' := by
  have K0 := Hid.mk' (lwBigT_any q c' l.length w)
  by_cases g1 : (1048576 : Int) < (l.length : Int)
  · go_enter Try.func4, Try.ntmps4
    go_wp2_with fail
    refine K0.out.mono ?_
    rintro e w1 ⟨rfl, hw1⟩
    obtain rfl := hw1.symm
    rw [decide_eq_true g1]
    go_wp2
    go_ret
    exact ⟨rfl, Below.refl _ _⟩
  have ll : (l.length : Int) ≤ 1048576 := by omega
  have KA := Hid.mk' (drawKids_any q c' l w hd hu ll)
  have HD := Hid.mk' hd
  have HU := Hid.mk' hu
  clear hd hu
  go_enter Try.func4, Try.ntmps4
  go_wp2_with fail
  refine K0.out.mono ?_
  rintro e w1 ⟨rfl, hw1⟩
  obtain rfl := hw1.symm
  rw [decide_eq_false (show ¬ (1048576 : Int) < (l.length : Int) by omega)]
  clear K0 g1 hw1
  go_wp2_with fail
  refine KA.out.mono ?_
  rintro e w2 ⟨nd, p, c, x, rfl, hna, hsz, x0, x1, hb2⟩
  have HB := Hid.mk' hb2
  have HA := Hid.mk' hna
  have nl : (nd.length : Int) + nssz nd ≤ 1048576 := by omega
  have KE := Hid.mk' (implKids_any p c nd x w2 hna nl)
  clear hna hb2 KA
  go_wp2_with fail
  refine KE.out.mono ?_
  rintro e w3 ⟨v, rfl, hoi, _, hb3⟩
  obtain ⟨ka, kc, rfl, hia⟩ := hoi.len
  have NB := below_new w3 (.cells #[.int .i64 (kidC nd x), .slice ka (kidL nd x).length kc] 32)
  have HI := Hid.mk' (hia.below NB)
  have HB := Hid.mk' (HB.out.trans ((hb3.trans (NB.mono hb3.size)).mono HB.out.size))
  have HA := Hid.mk' ((HA.out.below hb3).below NB)
  have RW := Hid.mk' (rowQ2 w3 32 (.int .i64 (kidC nd x)) (.slice ka (kidL nd x).length kc))
  have KD := Hid.mk' (drawDepth_any q c' l _ (HD.out.below HB.out) HU.out ll)
  clear NB hb3 KE hoi hia
  go_wp2_with fail
  obtain ⟨g, hg⟩ : ∃ g, w3.heap.size = g := ⟨_, rfl⟩
  rw [hg] at RW
  try rw [hg]
  generalize w3.alloc (.cells #[.int .i64 (kidC nd x), .slice ka (kidL nd x).length kc] 32) = W at *
  refine KD.out.mono ?_
  rintro e W2 ⟨nd2, p2_, c2_, x2, rfl, hn2, hs2, _, _, hb⟩
  have N2 := Hid.mk' hn2
  have nl2 : (nd2.length : Int) + nssz nd2 ≤ 1048576 := by omega
  clear hn2 KD
  have HB := Hid.mk' (HB.out.trans (hb.mono HB.out.size))
  have HA := Hid.mk' (HA.out.below hb)
  have HI := Hid.mk' (HI.out.below hb)
  have RW := Hid.mk' (rowB RW.out hb)
  have KD := Hid.mk' (drawText_any q c' l _ (HD.out.below HB.out) HU.out ll)
  clear hb
  go_wp2_with fail
  refine KD.out.mono ?_
  rintro e W3 ⟨nd3, p3_, c3_, rfl, hn3, hs3, hb⟩
  have N3 := Hid.mk' hn3
  have nl3 : (nd3.length : Int) + nssz nd3 ≤ 1048576 := by omega
  clear hn3 KD
  have HB := Hid.mk' (HB.out.trans (hb.mono HB.out.size))
  have HA := Hid.mk' (HA.out.below hb)
  have HI := Hid.mk' (HI.out.below hb)
  have RW := Hid.mk' (rowB RW.out hb)
  have N2 := Hid.mk' (N2.out.below hb)
  have KD := Hid.mk' (drawVoid_any q c' l _ (HD.out.below HB.out) HU.out ll)
  clear hb
  go_wp2_with fail
  refine KD.out.mono ?_
  rintro e W4 ⟨t, rfl, hb⟩
  have HB := Hid.mk' (HB.out.trans (hb.mono HB.out.size))
  have HA := Hid.mk' (HA.out.below hb)
  have HI := Hid.mk' (HI.out.below hb)
  have RW := Hid.mk' (rowB RW.out hb)
  have N2 := Hid.mk' (N2.out.below hb)
  have N3 := Hid.mk' (N3.out.below hb)
  clear hb KD HD HU
  have fk0 := fK0
  have fk1 := fK1
  have fk2 := fK2
  have fk3 := fK3
  have fk4 := fK4
  have fk5 := fK5
  have KD := Hid.mk' (implDepth_any p2_ c2_ nd2 x2 _ N2.out nl2)
  go_wp2_with fail
  refine KD.out.mono ?_
  rintro e W5 ⟨rfl, hb⟩
  have HB := Hid.mk' (HB.out.trans (hb.mono HB.out.size))
  have HA := Hid.mk' (HA.out.below hb)
  have HI := Hid.mk' (HI.out.below hb)
  have RW := Hid.mk' (rowB RW.out hb)
  have N2 := Hid.mk' (N2.out.below hb)
  have N3 := Hid.mk' (N3.out.below hb)
  clear hb KD
  have KD := Hid.mk' (specDepth_any p2_ c2_ nd2 x2 _ N2.out nl2)
  go_wp2_with fail
  refine KD.out.mono ?_
  rintro e W5 ⟨rfl, hb⟩
  have HB := Hid.mk' (HB.out.trans (hb.mono HB.out.size))
  have HA := Hid.mk' (HA.out.below hb)
  have HI := Hid.mk' (HI.out.below hb)
  have RW := Hid.mk' (rowB RW.out hb)
  have N2 := Hid.mk' (N2.out.below hb)
  have N3 := Hid.mk' (N3.out.below hb)
  clear hb KD
  have KD := Hid.mk' (implDepth_any p2_ c2_ nd2 x2 _ N2.out nl2)
  go_wp2_with fail
  refine KD.out.mono ?_
  rintro e W5 ⟨rfl, hb⟩
  have HB := Hid.mk' (HB.out.trans (hb.mono HB.out.size))
  have HA := Hid.mk' (HA.out.below hb)
  have HI := Hid.mk' (HI.out.below hb)
  have RW := Hid.mk' (rowB RW.out hb)
  have N2 := Hid.mk' (N2.out.below hb)
  have N3 := Hid.mk' (N3.out.below hb)
  clear hb KD
  have KD := Hid.mk' (specDepth_any p2_ c2_ nd2 x2 _ N2.out nl2)
  go_wp2_with fail
  refine KD.out.mono ?_
  rintro e W5 ⟨rfl, hb⟩
  have HB := Hid.mk' (HB.out.trans (hb.mono HB.out.size))
  have HA := Hid.mk' (HA.out.below hb)
  have HI := Hid.mk' (HI.out.below hb)
  have RW := Hid.mk' (rowB RW.out hb)
  have N2 := Hid.mk' (N2.out.below hb)
  have N3 := Hid.mk' (N3.out.below hb)
  clear hb KD
  have KD := Hid.mk' (implText_n p3_ c3_ nd3 _ N3.out nl3)
  go_wp2_with fail
  refine KD.out.mono ?_
  rintro e W5 ⟨v1, rfl, o1, _, hb⟩
  obtain ⟨a1, d1, rfl, _⟩ := o1.len
  have HB := Hid.mk' (HB.out.trans (hb.mono HB.out.size))
  have HA := Hid.mk' (HA.out.below hb)
  have HI := Hid.mk' (HI.out.below hb)
  have RW := Hid.mk' (rowB RW.out hb)
  have N2 := Hid.mk' (N2.out.below hb)
  have N3 := Hid.mk' (N3.out.below hb)
  clear hb KD
  have KD := Hid.mk' (specText_n p3_ c3_ nd3 _ N3.out nl3)
  go_wp2_with fail
  refine KD.out.mono ?_
  rintro e W5 ⟨v1, rfl, o1, _, hb⟩
  obtain ⟨a2, d2, rfl, _⟩ := o1.len
  clear o1
  have HB := Hid.mk' (HB.out.trans (hb.mono HB.out.size))
  have HA := Hid.mk' (HA.out.below hb)
  have HI := Hid.mk' (HI.out.below hb)
  have RW := Hid.mk' (rowB RW.out hb)
  have N2 := Hid.mk' (N2.out.below hb)
  have N3 := Hid.mk' (N3.out.below hb)
  clear hb KD
  have KD := Hid.mk' (implText_n p3_ c3_ nd3 _ N3.out nl3)
  go_wp2_with fail
  refine KD.out.mono ?_
  rintro e W5 ⟨v1, rfl, o1, _, hb⟩
  obtain ⟨a3, d3, rfl, _⟩ := o1.len
  have O3 := Hid.mk' o1
  clear o1
  have HB := Hid.mk' (HB.out.trans (hb.mono HB.out.size))
  have HA := Hid.mk' (HA.out.below hb)
  have HI := Hid.mk' (HI.out.below hb)
  have RW := Hid.mk' (rowB RW.out hb)
  have N2 := Hid.mk' (N2.out.below hb)
  have N3 := Hid.mk' (N3.out.below hb)
  clear hb KD
  have KD := Hid.mk' (specText_n p3_ c3_ nd3 _ N3.out nl3)
  go_wp2_with fail
  refine KD.out.mono ?_
  rintro e W5 ⟨v1, rfl, o1, _, hb⟩
  obtain ⟨a4, d4, rfl, b4⟩ := o1.len
  have O3 := Hid.mk' (O3.out.below hb)
  have B4 := Hid.mk' b4
  clear o1 b4
  have HB := Hid.mk' (HB.out.trans (hb.mono HB.out.size))
  have HA := Hid.mk' (HA.out.below hb)
  have HI := Hid.mk' (HI.out.below hb)
  have RW := Hid.mk' (rowB RW.out hb)
  have N2 := Hid.mk' (N2.out.below hb)
  have N3 := Hid.mk' (N3.out.below hb)
  clear hb KD
  have KD : Hid (Calls Try.prog 18 #[.slice a3 (txL nd3).length d3, .slice a4 (txL nd3).length d4] W5 fun e w' => e = .returned (.bool true) ∧ w' = W5) := Hid.mk' (by
    obtain ⟨a9, d9, e9, b9⟩ := O3.out.len
    injection e9 with e1 _ _
    rw [e1]; exact lwBytesT _ _ _ _ _ _ b9 B4.out)
  go_wp2_with fail
  refine KD.out.mono ?_
  rintro e W6 ⟨rfl, hw6⟩
  obtain rfl := hw6.symm
  clear KD hw6
  have KD := Hid.mk' (implVoid_any t W5)
  go_wp2_with fail
  refine KD.out.mono ?_
  rintro e W6 ⟨rfl, hw6⟩
  obtain rfl := hw6.symm
  clear KD hw6
  have KD := Hid.mk' (specVoid_any t W5)
  go_wp2_with fail
  refine KD.out.mono ?_
  rintro e W6 ⟨rfl, hw6⟩
  obtain rfl := hw6.symm
  clear KD hw6
  obtain ⟨y0, y1, _⟩ := cellsQ2 RW.out
  obtain ⟨K, hK⟩ : ∃ K, kidC nd x = K := ⟨_, rfl⟩
  have EK := Hid.mk' hK
  rw [hK] at RW y0
  try rw [hK]
  by_cases k0 : K = 0
  · subst k0
    clear N2 N3 fk0 fk1 fk2 fk3
    obtain ⟨t1, t2⟩ : treeF nd = 0 ∧ kidL nd x = kidsU (upF nd) x nd.length := by
      rcases kid_cases nd x with ⟨h1, h2, _⟩ | ⟨h1, h2, h3, _⟩ | ⟨h1, _, _, h4⟩
      · rw [hK] at h2; exact absurd h2.symm h1
      · rw [hK] at h3; exact absurd h3 (by decide)
      · exact ⟨h1, h4⟩
    have SU : Hid (sumK (upF nd) nd.length (nd.length + 1) = nd.length) := Hid.mk' (sumK_all (upF nd) (nd.length + 1) nd.length (fun k hk => by have := up_range t1 hk; omega))
    have SM : Hid (∀ m, m ≤ nd.length + 1 → sumK (upF nd) nd.length m ≤ nd.length) := Hid.mk' (fun m hm => by have := sumK_mono (upF nd) nd.length hm; rw [SU.out] at this; exact this)
    have ln := treeF_len t1
    have KL : Hid (∀ m : Nat, m ≤ nd.length → kidC nd ((m : Int) - 1) = 0 ∧ kidL nd ((m : Int) - 1) = kidsU (upF nd) ((m : Int) - 1) nd.length) := Hid.mk' (fun m hm => by
      have e : kidC nd ((m : Int) - 1) = 0 := by unfold kidC; rw [if_pos t1, if_pos ⟨by omega, by omega⟩]
      exact ⟨e, by unfold kidL; rw [if_pos e]⟩)
    have LK : Hid (∀ j, j < (kidL nd x).length → ∃ i : Nat, wv (kidL nd x) j = (i : Int) ∧ i < nd.length ∧ (ndK nd i).up = x) := Hid.mk' (fun j hj => by
      obtain ⟨i, h1, h2, h3⟩ := kidsU_mem (upF nd) x nd.length (wv (kidL nd x) j) (by rw [← t2]; exact List.mem_of_getElem? (wv_get hj))
      exact ⟨i, h1, h2, h3⟩)
    clear t1 t2 hK
    go_wp2_with fail
    go_loopw [10, 11] (fun a b wr => ∃ m : Nat, m ≤ nd.length + 1 ∧ b = .int .i64 ((m : Int) - 1) ∧ a = .int .i64 ((sumK (upF nd) nd.length m : Nat) : Int) ∧ Below W5.heap.size W5 wr) (fun _ b _ => (nd.length + 1) - (intOf b + 1).toNat)
    case atStart => exact ⟨0, by omega, rfl, rfl, Below.refl _ _⟩
    case round =>
      obtain ⟨m, hm, rfl, rfl, hbl⟩ := hrel
      have BL := Hid.mk' hbl
      have NA := Hid.mk' (HA.out.below hbl)
      clear hbl
      have s0 := SM.out m hm
      by_cases hlt : m ≤ nd.length
      · have ci : (m : Int) - 1 < (nd.length : Int) := by omega
        have s1 := SM.out (m + 1) (by omega)
        have s2 : sumK (upF nd) nd.length (m + 1) = sumK (upF nd) nd.length m + (kidsU (upF nd) ((m : Int) - 1) nd.length).length := rfl
        have KD := Hid.mk' (implKids_any p c nd ((m : Int) - 1) wr NA.out nl)
        go_wp2_with fail
        refine KD.out.mono ?_
        rintro e W7 ⟨v7, rfl, o7, _, hb⟩
        obtain ⟨a7, d7, rfl, _⟩ := o7.len
        rw [(KL.out m hlt).2]
        have B7 := Hid.mk' (BL.out.trans (hb.mono BL.out.size))
        clear hb o7 KD
        generalize (kidsU (upF nd) ((m : Int) - 1) nd.length).length = L7 at *
        go_wp2_with fail
        go_roundw
        case rel => exact ⟨m + 1, by omega, by go_num, by rw [s2]; go_num, B7.out⟩
        case measure => simp [intOf]; omega
      · have ci : ¬ (m : Int) - 1 < (nd.length : Int) := by omega
        have em : m = nd.length + 1 := by omega
        subst em
        rw [SU.out]
        have HB := Hid.mk' (HB.out.trans (BL.out.mono HB.out.size))
        have HI := Hid.mk' (HI.out.below BL.out)
        have RW := Hid.mk' (rowB RW.out BL.out)
        obtain ⟨y0, y1, _⟩ := cellsQ2 RW.out
        clear s0 hlt BL HA SM KL
        go_wp2_with fail
        obtain ⟨L, hL⟩ : ∃ L, kidL nd x = L := ⟨_, rfl⟩
        have ls := kidL_small nd x
        rw [hL] at LK HI y1 RW ls
        try rw [hL]
        clear hL
        go_loopw [12] (fun a wr2 => ∃ j : Nat, j ≤ L.length ∧ a = .int .i64 (j : Int) ∧ wr2 = wr) (fun a _ => L.length - (intOf a).toNat)
        case atStart => exact ⟨0, Nat.zero_le _, rfl, rfl⟩
        case round =>
          obtain ⟨j, hj, rfl, hww⟩ := hrel
          subst hww
          by_cases hlt2 : j < L.length
          · have cj : (j : Int) < (L.length : Int) := by omega
            obtain ⟨i, e1, e2, e3⟩ := LK.out j hlt2
            rcases HI.out with h0 | ⟨bi, oi, rfl, _, hci⟩
            · exact absurd hlt2 (by rw [h0]; exact Nat.not_lt_zero _)
            have q1 := hci j hlt2
            rw [e1] at q1
            rcases NA.out with h0 | ⟨bn, on, rfl, _, hcn⟩
            · exact absurd e2 (by rw [h0]; exact Nat.not_lt_zero _)
            have q2 := (hcn i e2).1
            rw [e3] at q2
            have i1 : ¬ (i : Int) < 0 := by omega
            have i2 : ¬ (i : Int) ≥ (nd.length : Int) := by omega
            have i3 : (i : Int) < (nd.length : Int) := by omega
            clear hci hcn
            go_wp2_with fail
            go_roundw
            case rel => exact ⟨j + 1, by omega, by go_num, by simp⟩
            case measure => simp [intOf]; omega
          · have cj : ¬ (j : Int) < (L.length : Int) := by omega
            go_wp2_with fail
            go_ret
            exact ⟨by simp, HB.out⟩
  · have k1 : (K != 0) = true := by simpa using k0
    clear hK
    go_wp2_with fail
    refine wp_region_held_drew (S := fun w' => w'.cell? ⟨g, 0, none⟩ = some (.int .i64 K)) (by kernel_rfl) y0 (fun hHeld => ?_)
    refine tkY 0 ?_
    refine tkY 1 ?_
    refine tkY 4 ?_
    refine tkY 5 ?_
    refine wpAnyH_ready (rs := [2]) (by kernel_rfl) (by simp) ?_
    refine AllReadyH.cons (o := ⟨_, _, _, _, _, _⟩) rfl (fun K hK => ?_) AllReadyH.nil
    go_simp
    refine (specKids_any p c nd x W5.drew (HA.out.below (Below.refl _ _).drew) nl).mono ?_
    rintro e W7 ⟨v7, rfl, o7, _, hb⟩
    replace hb := undrew hb
    obtain ⟨a7, d7, rfl, _⟩ := o7.len
    rw [EK.out]
    have HB := Hid.mk' (HB.out.trans (hb.mono HB.out.size))
    have HA := Hid.mk' (HA.out.below hb)
    have RW := Hid.mk' (rowB RW.out hb)
    have z0 := (cellsQ2 RW.out).1
    clear hb o7
    refine hK.out _ _ z0 (fun hHeld => ?_)
    clear hK K
    try simp only [Act.put, zA, zB, zC]
    refine tkY 3 ?_
    refine tkY 6 ?_
    refine tkY 7 ?_
    refine tkY 8 ?_
    refine tkY 10 ?_
    refine wpAnyH_ready (rs := [9]) (by kernel_rfl) (by simp) ?_
    refine AllReadyH.cons (o := ⟨_, _, _, _, _, _⟩) rfl (fun K hK => ?_) AllReadyH.nil
    go_simp
    refine (implTree_any p c nd _ HA.out nl).mono ?_
    rintro e W7 ⟨rfl, hb⟩
    have HB := Hid.mk' (HB.out.trans (hb.mono HB.out.size))
    have HA := Hid.mk' (HA.out.below hb)
    have RW := Hid.mk' (rowB RW.out hb)
    have z0 := (cellsQ2 RW.out).1
    clear hb
    refine hK.out _ _ z0 (fun hHeld => ?_)
    clear hK K
    try simp only [Act.put, zA, zB, zC]
    refine wpAnyH_ready (rs := [11]) (by kernel_rfl) (by simp) ?_
    refine AllReadyH.cons (o := ⟨_, _, _, _, _, _⟩) rfl (fun K hK => ?_) AllReadyH.nil
    go_simp
    refine (specTree_any p c nd _ HA.out nl).mono ?_
    rintro e W7 ⟨rfl, hb⟩
    have HB := Hid.mk' (HB.out.trans (hb.mono HB.out.size))
    have HA := Hid.mk' (HA.out.below hb)
    have RW := Hid.mk' (rowB RW.out hb)
    have z0 := (cellsQ2 RW.out).1
    clear hb
    refine hK.out _ _ z0 (fun hHeld => ?_)
    clear hK K
    try simp only [Act.put, zA, zB, zC]
    refine tkY 12 ?_
    refine tkY 13 ?_
    refine tkY 14 ?_
    refine wpAnyH_done (by kernel_rfl) ?_ _
    go_wp2_with fail
    go_ret
    exact ⟨by simp, HB.out⟩

end Go.Proofs.Ytlaeomnacgjcgaa
