/- ApplyPatches of a text that is nil: both sides; and of any bytes that a slice holds. -/
import Derived.Test.YtbdjppiagjhfmaaXpk
namespace Go.Proofs.Ytbdjppiagjhfmaa
open Go.RowKit
set_option linter.unusedVariables false
set_option linter.unusedSimpArgs false

theorem apl_nil_step {l : List XK} {k : Nat} (hk : k < l.length) (hz : pallX (l.drop k) 0 0 = 0) :
    (xkK l k).pl = 0 ∧ (xkK l k).ct = 0 ∧ (xkK l k).hd.length ≤ 240 ∧ pallX (l.drop (k + 1)) 0 0 = 0 ∧ apl [] (l.drop k) 0 = (xkK l k).hd ++ apl [] (l.drop (k + 1)) 0 := by
  rcases pall_step hk hz with ⟨hz1, hz2⟩ | ⟨hz1, hz2⟩
  · obtain ⟨P, C, e1, e2, h1, h2, h3⟩ := pone_zero (s := 0) (e := 0) hz1
    have p0 : P = 0 := by omega
    have c0 : C = 0 := by omega
    subst p0
    subst c0
    refine ⟨e1, e2, h3, ?_, ?_⟩
    · rw [e1, e2] at hz2
      exact hz2
    · rw [apl_step hk, e1, e2]
      rfl
  · exact absurd hz2 hz1

theorem apC_nil (l : List XK) : apC [] l = (if patF l 0 = 0 then (if 2000 < (apl [] l 0).length then 6 else 0) else patF l 0) := rfl

theorem bat_nil (w : World) : BAt w none [] := .inl rfl

set_option maxRecDepth 100000 in
set_option maxHeartbeats 3200000 in
theorem l14ApplyN_any (a : Option Addr) (m : Nat) (l : List XK) (w : World) (ha : XsAt w a l) (hl : l.length ≤ 20) (h0 : pallX l 0 0 = 0) :
    Calls Try.prog 66 #[.slice none 0 0, .slice a l.length m] w fun e w' => ∃ v, e = .returned v ∧ w'.ownsRow w.heap.size 5 1 v (apl [] l 0).length (bcs (apl [] l 0)) ∧ Below w.heap.size w w' := by
  have HA := Hid.mk' ha
  have T := Hid.mk' h0
  clear ha h0
  obtain ⟨t, hT⟩ : ∃ t, apl [] l 0 = t := ⟨_, rfl⟩
  rw [hT]
  have TT := Hid.mk' hT
  clear hT
  go_enter Try.func66, Try.ntmps66
  go_wp2
  go_loopw [5, 6, 7] (fun v x i wr => ∃ (k : Nat) (q : List Int), k ≤ l.length ∧ i = .int .i64 k ∧ x = .int .i64 0 ∧ pallX (l.drop k) 0 0 = 0 ∧ q ++ apl [] (l.drop k) 0 = t ∧ q.length ≤ 240 * k ∧ wr.ownsRow w.heap.size 5 1 v q.length (bcs q) ∧ Below w.heap.size w wr) (fun _ _ i _ => l.length - (intOf i).toNat)
  case atStart => exact ⟨0, [], Nat.zero_le _, rfl, rfl, T.out, by simpa using TT.out, by simp, World.ownsRow_lit w #[] 0 (Nat.le_refl _) (by decide) rfl, below_new w _⟩
  case round =>
    obtain ⟨k, q, hk, rfl, rfl, hz, hq, hql, hown, hbl⟩ := hrel
    have HB := Hid.mk' hbl
    have HO := Hid.mk' hown
    clear hbl hown T TT
    by_cases hlt : k < l.length
    · have ci : (k : Int) < (l.length : Int) := by omega
      rcases HA.out with ha | ⟨b1, o1, rfl, hbs, hc1⟩
      · exact absurd hlt (by rw [ha]; exact Nat.not_lt_zero _)
      obtain ⟨q0, q1, p, e, q2, hp⟩ := hc1 k hlt
      replace q0 := (HB.out.cell hbs).trans q0
      replace q1 := (HB.out.cell hbs).trans q1
      replace q2 := (HB.out.cell hbs).trans q2
      obtain ⟨e1, e2, hh, hz2, hs⟩ := apl_nil_step hlt hz
      rw [hs] at hq
      rw [e1] at q0
      rw [e2] at q1
      have HP := Hid.mk' hp
      have Z2 := Hid.mk' hz2
      have HQ := Hid.mk' hq
      have HQL := Hid.mk' hql
      clear hc1 hp hz hz2 hq hql e1 e2 hs
      generalize hn : (xkK l k).hd = h at *
      clear hn
      go_wp2
      go_region_held3 (fun w' => w'.cell? ⟨b1, o1 + k * 3, none⟩ = some (.int .i64 0) ∧ w'.cell? ⟨b1, o1 + k * 3 + 2, none⟩ = some (.slice p h.length e)) (simp [*])
        (first | (refine step_append_at rfl (.tmp 15) (.tmp 23) 22 rfl w.heap.size 5 (.int .u8 0) 1 1 Try.underlying22 Try.info5 rfl (by decide) u5 q.length (bcs q) rfl HO.out.drew none 0 0 (bcs []) rfl rfl (bat_nil _).src (bcs_one _) (by have := HQL.out; unfold maxLen; omega) (by have := HQL.out; omega) HB.out.size ?_; intro v1 w1 ho1 hg1 hq1; clear hq1; have hb1 := HB.out.drew.grown hg1 HB.out.size (own_lo HO.out); have hx1 := grown_cells hg1 (own_lo HO.out) HB.out.size; simp at hx1) | (refine step_append_at rfl (.tmp 24) (.tmp 29) 22 rfl w.heap.size 5 (.int .u8 0) 1 1 Try.underlying22 Try.info5 rfl (by decide) v1 (q.length + 0) _ rfl ho1 p h.length e (bcs h) rfl (bcs_len h) (HP.out.below hb1).src (bcs_one _) (by have := HQL.out; unfold maxLen; omega) (by have := HQL.out; omega) hb1.size ?_; intro v2 w2 ho2 hg2 hq2; clear hq2; have hb2 := hb1.grown hg2 hb1.size (own_lo ho1); have hx2 := grown_cells hg2 (own_lo ho1) hb1.size; (try simp at hx2)))
      have g0 := (hx2 b1 (o1 + k * 3) hbs).trans ((hx1 b1 (o1 + k * 3) hbs).trans q0)
      have g1 := (hx2 b1 (o1 + k * 3 + 1) hbs).trans ((hx1 b1 (o1 + k * 3 + 1) hbs).trans q1)
      have O2 : Hid (w2.ownsRow w.heap.size 5 1 v2 (q ++ h).length (bcs (q ++ h))) := by
        show World.ownsRow _ _ _ _ _ _ _
        rw [bcs_append, List.length_append]
        simpa [bcs] using ho2
      have B2 := Hid.mk' hb2
      clear hx1 hx2 ho1 ho2 hg1 hg2 hb1 hb2 q0 q1 q2 HO
      go_wp2
      go_region_held3 (fun w' => w'.cell? ⟨b1, o1 + k * 3, none⟩ = some (.int .i64 0) ∧ w'.cell? ⟨b1, o1 + k * 3 + 1, none⟩ = some (.int .i64 0)) (simp [*])
        (fail)
      go_wp2
      go_roundw
      case rel => exact ⟨k + 1, q ++ h, by omega, by go_num, by first | rfl | go_num, Z2.out, by rw [← HQ.out]; simp [List.append_assoc], by have := HQL.out; simp only [List.length_append]; omega, O2.out.drew, B2.out.drew⟩
      case measure => simp [intOf]; omega
    · have ci : ¬ (k : Int) < (l.length : Int) := by omega
      have e : k = l.length := by omega
      subst e
      rw [apl_end] at hq
      have HQ := Hid.mk' hq
      have HQL := Hid.mk' hql
      clear hq hz hql
      go_wp2_with (at_builtin; refine wpList_append_any _ rfl (.tmp 42) (.tmp 45) 22 rfl w.heap.size 5 (.int .u8 0) 1 1 Try.underlying22 Try.info5 rfl (by decide) _ q.length _ rfl HO.out none 0 0 (bcs []) rfl rfl (bat_nil _).src (bcs_one _) (by have := HQL.out; unfold maxLen; omega) (by have := HQL.out; omega) HB.out.size ?_; intro v3 w3 ho3 hg3; have hb3 := HB.out.grown hg3 HB.out.size (fun k hk => own_lo HO.out k hk))
      all_goals
        go_ret
        have hq := HQ.out
        simp at hq
        subst hq
        exact ⟨_, rfl, by simpa [bcs] using ho3, hb3⟩

set_option maxRecDepth 100000 in
set_option maxHeartbeats 3200000 in
theorem specAPN_any (a : Option Addr) (m : Nat) (l : List XK) (w : World) (ha : XsAt w a l) (hw : WideX l) :
    Calls Try.prog 37 #[Value.slice none 0 0, .slice a l.length m] w fun e w' => ∃ v, e = .returned (.agg #[.int .i64 (apC [] l), v]) ∧ OB w' v (apB [] l) ∧ In w.heap.size w'.heap.size v ∧ Below w.heap.size w w' := by
  have B0 := below_new w (.cells #[.int .i64 0, .slice none 0 0] 39)
  have R0 := rowp2 w 39 (.int .i64 0) (.slice none 0 0)
  generalize hW : w.alloc (.cells #[.int .i64 0, .slice none 0 0] 39) = W at *
  have K0 := l14Fault_any a m l 0 W (ha.below B0) hw
  by_cases h0 : patF l 0 = 0
  · obtain ⟨h1, h2, h3⟩ := pat_zero h0
    have K1 := Hid.mk' (fun (w1 : World) (hb : Below W.heap.size W w1) => l14ApplyN_any a m l w1 ((ha.below B0).below hb) h2 h3)
    rw [h0] at K0
    have K0 := Hid.mk' K0
    have BB := Hid.mk' B0
    have RR := Hid.mk' R0
    have H0 := Hid.mk' h0
    clear B0 R0 ha hw h0 h1 h2 h3
    go_enter Try.func37, Try.ntmps37
    go_wp2_with fail
    clear hW
    refine K0.out.mono ?_
    rintro e w1 ⟨rfl, hb1⟩
    have K1 := Hid.mk' (K1.out w1 hb1)
    have BB := Hid.mk' (BB.out.trans (hb1.mono BB.out.size))
    have RR := Hid.mk' (rowB RR.out hb1)
    clear K0 hb1
    go_wp2_with fail
    refine K1.out.mono ?_
    rintro e w2 ⟨v2, rfl, ho2, hb2⟩
    obtain ⟨o2, lo2⟩ := OB.of_own ho2
    have I2 := Hid.mk' (fun k hk => ⟨lo2 k hk, o2.lt k hk⟩ : In w1.heap.size w2.heap.size v2)
    have s1 := BB.out.size
    have l1 := RR.out.lt
    have RR := Hid.mk' (rowB RR.out hb2)
    have BB := Hid.mk' (BB.out.trans (hb2.mono BB.out.size))
    obtain ⟨va, vc, rfl, _⟩ := o2.len
    have O2 := Hid.mk' o2
    obtain ⟨b0, b1, _⟩ := cells2 RR.out
    have f0 := RR.out.frozen 0
    have f1 := RR.out.frozen 1
    clear K1 hb2 ho2 o2 lo2
    by_cases h2 : 2000 < (apl [] l 0).length
    · have EC : Hid (apC [] l = 6) := Hid.mk' (by rw [apC_nil, if_pos H0.out, if_pos h2])
      have EB : Hid (apB [] l = []) := Hid.mk' (by unfold apB; rw [EC.out]; rfl)
      have h2' : 2000 < ((apl [] l 0).length : Int) := by omega
      clear h2
      go_wp2
      refine bodyPost_ret (v := .agg #[.int .i64 6, .slice none 0 0]) (by simp [results, Try.results37, go_sem, *]) rfl ?_
      refine ⟨_, by rw [EC.out], ?_, In.nil _ _, (BB.out.setCell (p := ⟨w.heap.size, 0, none⟩) (Nat.le_refl _) _).setCell (p := ⟨w.heap.size, 1, none⟩) (Nat.le_refl _) _⟩
      rw [EB.out]
      exact OB.none _
    · have EC : Hid (apC [] l = 0) := Hid.mk' (by rw [apC_nil, if_pos H0.out, if_neg h2])
      have EB : Hid (apB [] l = apl [] l 0) := Hid.mk' (by unfold apB; rw [EC.out]; rfl)
      have h2' : ¬ 2000 < ((apl [] l 0).length : Int) := by omega
      clear h2
      go_wp2
      refine bodyPost_ret (v := .agg #[.int .i64 0, .slice va (apl [] l 0).length vc]) (by simp [results, Try.results37, go_sem, *]) rfl ?_
      have hk := kept2 w2 w.heap.size 0 1 (.int .i64 0) (.slice va (apl [] l 0).length vc)
      refine ⟨_, by rw [EC.out], ?_, (show In w1.heap.size w2.heap.size (.slice va (apl [] l 0).length vc) from I2.out).mono (by omega) hk.size, BB.out.trans (hk.below (by omega) BB.out.size)⟩
      rw [EB.out]
      exact O2.out.kept I2.out hk (.inr (by omega))
  · have EC : Hid (apC [] l = patF l 0) := Hid.mk' (by rw [apC_nil, if_neg h0])
    have EB : Hid (apB [] l = []) := Hid.mk' (by unfold apB; rw [EC.out, if_neg h0])
    have BB := Hid.mk' B0
    have RR := Hid.mk' R0
    clear B0 R0 ha hw
    generalize hz : patF l 0 = z at *
    have K0 := Hid.mk' K0
    clear hz
    go_enter Try.func37, Try.ntmps37
    go_wp2_with fail
    clear hW
    refine K0.out.mono ?_
    rintro e w1 ⟨rfl, hb1⟩
    have BB := Hid.mk' (BB.out.trans (hb1.mono BB.out.size))
    have RR := Hid.mk' (rowB RR.out hb1)
    obtain ⟨b0, b1, _⟩ := cells2 RR.out
    have f0 := RR.out.frozen 0
    have f1 := RR.out.frozen 1
    clear K0 hb1
    go_wp2
    refine bodyPost_ret (v := .agg #[.int .i64 z, .slice none 0 0]) (by simp [results, Try.results37, go_sem, *]) rfl ?_
    refine ⟨_, by rw [EC.out], ?_, In.nil _ _, (BB.out.setCell (p := ⟨w.heap.size, 0, none⟩) (Nat.le_refl _) _).setCell (p := ⟨w.heap.size, 1, none⟩) (Nat.le_refl _) _⟩
    rw [EB.out]
    exact OB.none _

set_option maxRecDepth 100000 in
set_option maxHeartbeats 3200000 in
theorem implAPN_any (a : Option Addr) (m : Nat) (l : List XK) (w : World) (ha : XsAt w a l) (hw : WideX l) :
    Calls Try.prog 40 #[Value.slice none 0 0, .slice a l.length m] w fun e w' => ∃ v, e = .returned (.agg #[.int .i64 (apC [] l), v]) ∧ OB w' v (apB [] l) ∧ In w.heap.size w'.heap.size v ∧ Below w.heap.size w w' := by
  have B0 := below_new w (.cells #[.int .i64 0, .slice none 0 0] 39)
  have R0 := rowp2 w 39 (.int .i64 0) (.slice none 0 0)
  generalize hW : w.alloc (.cells #[.int .i64 0, .slice none 0 0] 39) = W at *
  have K0 := implPF_any a m l 0 W (ha.below B0) hw
  have BB := Hid.mk' B0
  have RR := Hid.mk' R0
  by_cases h0 : patF l 0 = 0
  rotate_left
  · have EC : Hid (apC [] l = patF l 0) := Hid.mk' (by rw [apC_nil, if_neg h0])
    have EB : Hid (apB [] l = []) := Hid.mk' (by unfold apB; rw [EC.out, if_neg h0])
    clear B0 R0 ha hw
    generalize hz : patF l 0 = z at *
    have K0 := Hid.mk' K0
    clear hz
    go_enter Try.func40, Try.ntmps40
    go_wp2_with fail
    clear hW
    refine K0.out.mono ?_
    rintro e w1 ⟨rfl, hb1⟩
    have BB := Hid.mk' (BB.out.trans (hb1.mono BB.out.size))
    have RR := Hid.mk' (rowB RR.out hb1)
    obtain ⟨b0, b1, _⟩ := cells2 RR.out
    have f0 := RR.out.frozen 0
    have f1 := RR.out.frozen 1
    clear K0 hb1
    go_wp2
    refine bodyPost_ret (v := .agg #[.int .i64 z, .slice none 0 0]) (by simp [results, Try.results40, go_sem, *]) rfl ?_
    refine ⟨_, by rw [EC.out], ?_, In.nil _ _, (BB.out.setCell (p := ⟨w.heap.size, 0, none⟩) (Nat.le_refl _) _).setCell (p := ⟨w.heap.size, 1, none⟩) (Nat.le_refl _) _⟩
    rw [EB.out]
    exact OB.none _
  obtain ⟨hs2, hl, h3⟩ := pat_zero h0
  have HA := Hid.mk' ha
  have H0 := Hid.mk' h0
  have T := Hid.mk' h3
  rw [h0] at K0
  have K0 := Hid.mk' K0
  clear B0 R0 ha hw h0 h3
  obtain ⟨t, hT⟩ : ∃ t, apl [] l 0 = t := ⟨_, rfl⟩
  have TT := Hid.mk' hT
  clear hT
  go_enter Try.func40, Try.ntmps40
  go_wp2_with fail
  clear hW
  refine K0.out.mono ?_
  rintro e w1 ⟨rfl, hb1⟩
  have BW := Hid.mk' hb1
  clear K0 hb1
  have HAW := Hid.mk' (HA.out.below BB.out)
  clear HA
  go_wp2
  go_loopw [6, 7, 9, 20] (fun v x _ i wr => ∃ (k : Nat) (q : List Int), k ≤ l.length ∧ i = .int .i64 k ∧ x = .int .i64 0 ∧ pallX (l.drop k) 0 0 = 0 ∧ q ++ apl [] (l.drop k) 0 = t ∧ q.length ≤ 240 * k ∧ wr.ownsRow W.heap.size 5 1 v q.length (bcs q) ∧ Below W.heap.size W wr) (fun _ _ _ i _ => l.length - (intOf i).toNat)
  case atStart => exact ⟨0, [], Nat.zero_le _, rfl, rfl, T.out, by simpa using TT.out, by simp, ⟨rfl, .inl ⟨rfl, rfl⟩⟩, BW.out⟩
  case round =>
    obtain ⟨k, q, hk, rfl, rfl, hz, hq, hql, hown, hbl⟩ := hrel
    have HB := Hid.mk' hbl
    have HO := Hid.mk' hown
    clear hbl hown T
    by_cases hlt : k < l.length
    · have ci : (k : Int) < (l.length : Int) := by omega
      rcases HAW.out with ha | ⟨b1, o1, rfl, hbs, hc1⟩
      · exact absurd hlt (by rw [ha]; exact Nat.not_lt_zero _)
      obtain ⟨q0, q1, p, e, q2, hp⟩ := hc1 k hlt
      replace q0 := (HB.out.cell hbs).trans q0
      replace q1 := (HB.out.cell hbs).trans q1
      replace q2 := (HB.out.cell hbs).trans q2
      obtain ⟨e1, e2, hh, hz2, hs⟩ := apl_nil_step hlt hz
      rw [hs] at hq
      rw [e1] at q0
      rw [e2] at q1
      have HP := Hid.mk' hp
      have Z2 := Hid.mk' hz2
      have HQ := Hid.mk' hq
      have HQL := Hid.mk' hql
      clear hc1 hp hz hz2 hq hql e1 e2 hs
      generalize hn : (xkK l k).hd = h at *
      have NB := below_new wr (.cells #[.int .i64 0, .int .i64 0, .slice p h.length e] 108)
      have RP := Hid.mk' (row3 wr 108 (.int .i64 0) (.int .i64 0) (.slice p h.length e))
      have HBV := Hid.mk' (HB.out.trans (NB.mono HB.out.size))
      have HOV := Hid.mk' (own_keep HO.out NB)
      have VZ : Hid ((wr.alloc (.cells #[.int .i64 0, .int .i64 0, .slice p h.length e] 108)).heap.size = wr.heap.size + 1) := Hid.mk' (by simp)
      clear hn NB
      generalize hV : wr.alloc (.cells #[.int .i64 0, .int .i64 0, .slice p h.length e] 108) = V at *
      obtain ⟨p0, p1, p2_, p3⟩ := cells3 RP.out
      go_wp2_with (first | (at_builtin; refine wpList_append_at _ rfl (.tmp 24) (.tmp 29) 22 rfl W.heap.size 5 (.int .u8 0) 1 1 Try.underlying22 Try.info5 rfl (by decide) u6 q.length (bcs q) rfl HOV.out none 0 0 (bcs []) rfl rfl (bat_nil _).src (bcs_one _) (by have := HQL.out; unfold maxLen; omega) (by have := HQL.out; omega) HBV.out.size ?_; intro v1 w2 ho1 hg1 hq1; have hb1 := HBV.out.grown hg1 HBV.out.size (own_lo HOV.out); have R2 := row_over HO.out RP.out hg1 (Nat.le_refl _); obtain ⟨p0', p1', p2', p3'⟩ := cells3 R2) | (at_builtin; refine wpList_append_at _ rfl (.tmp 31) (.tmp 33) 22 rfl W.heap.size 5 (.int .u8 0) 1 1 Try.underlying22 Try.info5 rfl (by decide) v1 _ _ rfl ho1 p h.length e (bcs h) rfl (bcs_len h) (HP.out.below hb1).src (bcs_one _) (by have := HQL.out; unfold maxLen; omega) (by have := HQL.out; omega) hb1.size ?_; intro v2 w3 ho2 hg2 hq2; clear hq2; have hb2 := hb1.grown hg2 hb1.size (own_lo ho1); have R3 := row_over2 HO.out RP.out.lt R2 hg2 (Nat.le_refl _) hq1; obtain ⟨p0'', p1'', p2'', p3''⟩ := cells3 R3; clear hq1))
      clear hV
      have O2 : Hid (w3.ownsRow W.heap.size 5 1 v2 (q ++ h).length (bcs (q ++ h))) := by
        show World.ownsRow _ _ _ _ _ _ _
        rw [bcs_append, List.length_append]
        simpa [bcs] using ho2
      have B2 := Hid.mk' hb2
      clear ho1 ho2 hg1 hg2 hb1 hb2 q0 q1 q2 HO HOV
      go_roundw
      case rel => exact ⟨k + 1, q ++ h, by omega, by go_num, by first | rfl | go_num, Z2.out, by rw [← HQ.out]; simp [List.append_assoc], by have := HQL.out; simp only [List.length_append]; omega, O2.out, B2.out⟩
      case measure => simp [intOf]; omega
    · have ci : ¬ (k : Int) < (l.length : Int) := by omega
      have e : k = l.length := by omega
      subst e
      rw [apl_end] at hq
      have HQ : Hid (q = t) := Hid.mk' (by simpa using hq)
      have HQL := Hid.mk' hql
      have L2 : Hid (t.length = q.length) := Hid.mk' (by rw [HQ.out])
      clear hq hz hql
      by_cases h2 : 2000 < t.length
      · have EC : Hid (apC [] l = 6) := Hid.mk' (by rw [apC_nil, if_pos H0.out, TT.out, if_pos h2])
        have EB : Hid (apB [] l = []) := Hid.mk' (by unfold apB; rw [EC.out]; rfl)
        have h3' : 2000 < (t.length : Int) := by omega
        clear h2
        go_wp2_with (at_builtin; refine wpList_append_any _ rfl (.tmp 41) (.tmp 44) 22 rfl W.heap.size 5 (.int .u8 0) 1 1 Try.underlying22 Try.info5 rfl (by decide) _ q.length _ rfl HO.out none 0 0 (bcs []) rfl rfl (bat_nil _).src (bcs_one _) (by have := HQL.out; unfold maxLen; omega) (by have := HQL.out; omega) HB.out.size ?_; intro v3 w3 ho3 hg3; have hb3 := HB.out.grown hg3 HB.out.size (fun k hk => own_lo HO.out k hk); replace ho3 : w3.ownsRow W.heap.size 5 1 v3 t.length (bcs t) := (by rw [← HQ.out]; simpa [bcs] using ho3); obtain ⟨o3, lo3⟩ := OB.of_own ho3; obtain ⟨va, vc, ev, _⟩ := o3.len; subst ev; have RZ := rowB RR.out hb3; obtain ⟨b0, b1, _⟩ := cells2 RZ; have f0 := RZ.frozen 0; have f1 := RZ.frozen 1)
        all_goals
          have BZ := Hid.mk' (BB.out.trans (hb3.mono BB.out.size))
          clear ho3 hg3 hb3 RZ o3 lo3
          refine bodyPost_ret (v := .agg #[.int .i64 6, .slice none 0 0]) (by simp [results, Try.results40, go_sem, *]) rfl ?_
          refine ⟨_, by rw [EC.out], ?_, In.nil _ _, (BZ.out.setCell (p := ⟨w.heap.size, 0, none⟩) (Nat.le_refl _) _).setCell (p := ⟨w.heap.size, 1, none⟩) (Nat.le_refl _) _⟩
          rw [EB.out]
          exact OB.none _
      · have EC : Hid (apC [] l = 0) := Hid.mk' (by rw [apC_nil, if_pos H0.out, TT.out, if_neg h2])
        have EB : Hid (apB [] l = t) := Hid.mk' (by unfold apB; rw [EC.out]; exact TT.out)
        have h3' : ¬ 2000 < (t.length : Int) := by omega
        clear h2
        go_wp2_with (at_builtin; refine wpList_append_any _ rfl (.tmp 41) (.tmp 44) 22 rfl W.heap.size 5 (.int .u8 0) 1 1 Try.underlying22 Try.info5 rfl (by decide) _ q.length _ rfl HO.out none 0 0 (bcs []) rfl rfl (bat_nil _).src (bcs_one _) (by have := HQL.out; unfold maxLen; omega) (by have := HQL.out; omega) HB.out.size ?_; intro v3 w3 ho3 hg3; have hb3 := HB.out.grown hg3 HB.out.size (fun k hk => own_lo HO.out k hk); replace ho3 : w3.ownsRow W.heap.size 5 1 v3 t.length (bcs t) := (by rw [← HQ.out]; simpa [bcs] using ho3); obtain ⟨o3, lo3⟩ := OB.of_own ho3; obtain ⟨va, vc, ev, _⟩ := o3.len; subst ev; have RZ := rowB RR.out hb3; obtain ⟨b0, b1, _⟩ := cells2 RZ; have f0 := RZ.frozen 0; have f1 := RZ.frozen 1)
        all_goals
          have BZ := Hid.mk' (BB.out.trans (hb3.mono BB.out.size))
          have I3 : Hid (In W.heap.size w3.heap.size (.slice va t.length vc)) := Hid.mk' (fun k hk => ⟨lo3 k hk, o3.lt k hk⟩)
          have O3 := Hid.mk' o3
          have s1 := RR.out.lt
          clear ho3 hg3 hb3 RZ o3 lo3
          refine bodyPost_ret (v := .agg #[.int .i64 0, .slice va t.length vc]) (by simp [results, Try.results40, go_sem, *]) rfl ?_
          have hk := kept2 w3 w.heap.size 0 1 (.int .i64 0) (.slice va t.length vc)
          refine ⟨_, by rw [EC.out], ?_, I3.out.mono (by omega) hk.size, BZ.out.trans (hk.below (by omega) BZ.out.size)⟩
          rw [EB.out]
          exact O3.out.kept I3.out hk (.inr (by omega))

end Go.Proofs.Ytbdjppiagjhfmaa
