/- ApplyPatches: the program. -/
import Derived.Test.YtbdjppiagjhfmaaXpj
namespace Go.Proofs.Ytbdjppiagjhfmaa
open Go.RowKit
set_option linter.unusedVariables false
set_option linter.unusedSimpArgs false

theorem row_over {wr V w2 : World} {g n nn base : Nat} {T : TypeId} {F : Nat → Value} {v : Value} {xs : List Value} (h : wr.ownsRow base 5 1 v nn xs) (hr : V.rowIs g T n F) (hg : V.grownBy w2 v.ownBlock) (hgl : wr.heap.size ≤ g) : w2.rowIs g T n F :=
  hr.of_block (hg.block g hr.lt (fun e => by have := (h.lt g e.symm).2; omega))

theorem row_over2 {wr V w2 w3 : World} {g n nn base : Nat} {T : TypeId} {F : Nat → Value} {v v1 : Value} {xs : List Value} (h : wr.ownsRow base 5 1 v nn xs) (h0 : g < V.heap.size) (hr : w2.rowIs g T n F) (hg : w2.grownBy w3 v1.ownBlock) (hgl : wr.heap.size ≤ g) (hq : v1.ownBlock = v.ownBlock ∨ v1.ownBlock = some V.heap.size) : w3.rowIs g T n F :=
  hr.of_block (hg.block g hr.lt (fun e => by
    rcases hq with hq | hq
    · rw [hq] at e
      have := (h.lt g e.symm).2
      omega
    · rw [hq] at e
      have := Option.some.inj e
      omega))

set_option maxHeartbeats 3200000 in
theorem implAP_any (b o c : Nat) (d : List Int) (a : Option Addr) (m : Nat) (l : List XK) (w : World) (hd : CAt w b o d) (hc : d.length ≤ c) (ha : XsAt w a l) (hw : WideX l) (hs : d.length ≤ 1048576) :
    Calls Try.prog 40 #[.slice (some ⟨b, o, none⟩) d.length c, .slice a l.length m] w fun e w' => ∃ v, e = .returned (.agg #[.int .i64 (apC d l), v]) ∧ OB w' v (apB d l) ∧ In w.heap.size w'.heap.size v ∧ Below w.heap.size w w' := by
  have B0 := below_new w (.cells #[.int .i64 0, .slice none 0 0] 39)
  have R0 := rowp2 w 39 (.int .i64 0) (.slice none 0 0)
  generalize hW : w.alloc (.cells #[.int .i64 0, .slice none 0 0] 39) = W at *
  have K0 := implPF_any a m l (d.length : Int) W (ha.below B0) hw
  have BB := Hid.mk' B0
  have RR := Hid.mk' R0
  by_cases h0 : patF l d.length = 0
  rotate_left
  · have EC : Hid (apC d l = patF l d.length) := Hid.mk' (by unfold apC; rw [if_neg h0])
    have EB : Hid (apB d l = []) := Hid.mk' (by unfold apB; rw [EC.out, if_neg h0])
    clear B0 R0 hd ha hw
    generalize hz : patF l d.length = z at *
    have K0 := Hid.mk' K0
    clear hz
    go_enter Try.func40, Try.ntmps40
    go_wp2_with fail
    clear hW
    refine K0.out.mono ?_
    rintro e w1 ⟨rfl, hb1⟩
    have BB := Hid.mk' (BB.out.trans (hb1.mono BB.out.size))
    have RR := Hid.mk' (rowB RR.out hb1)
    obtain ⟨b0, b1, _⟩ := cells2 RR.out
    have f0 := RR.out.frozen 0
    have f1 := RR.out.frozen 1
    clear K0 hb1
    go_wp2
    refine bodyPost_ret (v := .agg #[.int .i64 z, .slice none 0 0]) (by simp [results, Try.results40, go_sem, *]) rfl ?_
    refine ⟨_, by rw [EC.out], ?_, In.nil _ _, (BB.out.setCell (p := ⟨w.heap.size, 0, none⟩) (Nat.le_refl _) _).setCell (p := ⟨w.heap.size, 1, none⟩) (Nat.le_refl _) _⟩
    rw [EB.out]
    exact OB.none _
  obtain ⟨hs2, hl, h3⟩ := pat_zero h0
  have hs2 : d.length ≤ 2000 := by omega
  have HA := Hid.mk' ha
  have HD := Hid.mk' hd
  have H0 := Hid.mk' h0
  have T := Hid.mk' h3
  rw [h0] at K0
  have K0 := Hid.mk' K0
  clear B0 R0 hd ha hw h0 h3
  obtain ⟨t, hT⟩ : ∃ t, apl d l 0 = t := ⟨_, rfl⟩
  have TT := Hid.mk' hT
  clear hT
  go_enter Try.func40, Try.ntmps40
  go_wp2_with fail
  clear hW
  refine K0.out.mono ?_
  rintro e w1 ⟨rfl, hb1⟩
  have BW := Hid.mk' hb1
  clear K0 hb1
  have HAW := Hid.mk' (HA.out.below BB.out)
  have HDW := Hid.mk' (HD.out.below BB.out)
  clear HA HD
  go_wp2
  go_loopw [6, 7, 9, 20] (fun v x _ i wr => ∃ (k f : Nat) (q : List Int), k ≤ l.length ∧ f ≤ d.length ∧ i = .int .i64 k ∧ x = .int .i64 f ∧ pallX (l.drop k) d.length f = 0 ∧ q ++ apl d (l.drop k) f = t ∧ q.length ≤ f + 240 * k ∧ wr.ownsRow W.heap.size 5 1 v q.length (bcs q) ∧ Below W.heap.size W wr) (fun _ _ _ i _ => l.length - (intOf i).toNat)
  case atStart => exact ⟨0, 0, [], Nat.zero_le _, Nat.zero_le _, rfl, rfl, T.out, by simpa using TT.out, by simp, ⟨rfl, .inl ⟨rfl, rfl⟩⟩, BW.out⟩
  case round =>
    obtain ⟨k, f, q, hk, hf, rfl, rfl, hz, hq, hql, hown, hbl⟩ := hrel
    have HB := Hid.mk' hbl
    have HO := Hid.mk' hown
    clear hbl hown T
    by_cases hlt : k < l.length
    · have ci : (k : Int) < (l.length : Int) := by omega
      rcases HAW.out with ha | ⟨b1, o1, rfl, hbs, hc1⟩
      · exact absurd hlt (by rw [ha]; exact Nat.not_lt_zero _)
      obtain ⟨q0, q1, p, e, q2, hp⟩ := hc1 k hlt
      replace q0 := (HB.out.cell hbs).trans q0
      replace q1 := (HB.out.cell hbs).trans q1
      replace q2 := (HB.out.cell hbs).trans q2
      rcases pall_step hlt hz with ⟨hz1, hz2⟩ | ⟨hz1, hz2⟩
      rotate_left
      · exact absurd hz2 hz1
      obtain ⟨P, C, e1, e2, hfP, hPC, hh⟩ := pone_zero hz1
      rw [apl_step hlt] at hq
      rw [e1, e2] at hz2 hq
      rw [Int.toNat_natCast, Int.toNat_natCast] at hq
      rw [e1] at q0
      rw [e2] at q1
      have L1 : Hid (((d.drop f).take (P - f)).length = P - f) := Hid.mk' (some_len (by omega))
      have HS := Hid.mk' (HDW.out.some (f := f) (z := P - f) hc (by omega))
      have HP := Hid.mk' hp
      have Z2 := Hid.mk' hz2
      have HQ := Hid.mk' hq
      have HQL := Hid.mk' hql
      clear hc1 hp hz hz1 hz2 hq hql e1 e2
      generalize hn : (xkK l k).hd = h at *
      have i1 : (0 : Int) ≤ (f : Int) := by omega
      have i2 : (f : Int) ≤ (P : Int) := by omega
      have i3 : (P : Int) ≤ (c : Int) := by omega
      have iw : IntKind.i64.wrap ((P : Int) + (C : Int)) = (P : Int) + (C : Int) := by rw [IntKind.wrap_i64]; omega
      have HPC := Hid.mk' hPC
      have NB := below_new wr (.cells #[.int .i64 (P : Int), .int .i64 (C : Int), .slice p h.length e] 108)
      have RP := Hid.mk' (row3 wr 108 (.int .i64 (P : Int)) (.int .i64 (C : Int)) (.slice p h.length e))
      have HBV := Hid.mk' (HB.out.trans (NB.mono HB.out.size))
      have HOV := Hid.mk' (own_keep HO.out NB)
      have VZ : Hid ((wr.alloc (.cells #[.int .i64 (P : Int), .int .i64 (C : Int), .slice p h.length e] 108)).heap.size = wr.heap.size + 1) := Hid.mk' (by simp)
      clear hn NB
      generalize hV : wr.alloc (.cells #[.int .i64 (P : Int), .int .i64 (C : Int), .slice p h.length e] 108) = V at *
      obtain ⟨p0, p1, p2_, p3⟩ := cells3 RP.out
      by_cases hcf : c = f
      · have HS := HS.out
        rw [if_pos hcf] at HS
        have HS := Hid.mk' HS
        subst hcf
        go_wp2_with (first | (at_builtin; refine wpList_append_at _ rfl (.tmp 24) (.tmp 29) 22 rfl W.heap.size 5 (.int .u8 0) 1 1 Try.underlying22 Try.info5 rfl (by decide) u6 q.length (bcs q) rfl HOV.out (some ⟨b, o, none⟩) (P - c) _ (bcs ((d.drop c).take (P - c))) rfl (by rw [bcs_len, L1.out]) (by have := (HS.out.below HBV.out).src; rwa [L1.out] at this) (bcs_one _) (by have := HQL.out; unfold maxLen; omega) (by have := HQL.out; omega) HBV.out.size ?_; intro v1 w2 ho1 hg1 hq1; have hb1 := HBV.out.grown hg1 HBV.out.size (own_lo HOV.out); have R2 := row_over HO.out RP.out hg1 (Nat.le_refl _); obtain ⟨p0', p1', p2', p3'⟩ := cells3 R2) | (at_builtin; refine wpList_append_at _ rfl (.tmp 31) (.tmp 33) 22 rfl W.heap.size 5 (.int .u8 0) 1 1 Try.underlying22 Try.info5 rfl (by decide) v1 _ _ rfl ho1 p h.length e (bcs h) rfl (bcs_len h) (HP.out.below hb1).src (bcs_one _) (by have := HQL.out; unfold maxLen; omega) (by have := HQL.out; omega) hb1.size ?_; intro v2 w3 ho2 hg2 hq2; clear hq2; have hb2 := hb1.grown hg2 hb1.size (own_lo ho1); have R3 := row_over2 HO.out RP.out.lt R2 hg2 (Nat.le_refl _) hq1; obtain ⟨p0'', p1'', p2'', p3''⟩ := cells3 R3; clear hq1))
        clear hV
        have O2 : Hid (w3.ownsRow W.heap.size 5 1 v2 (q ++ (d.drop c).take (P - c) ++ h).length (bcs (q ++ (d.drop c).take (P - c) ++ h))) := by
          show World.ownsRow _ _ _ _ _ _ _
          rw [bcs_append, bcs_append, List.length_append, List.length_append, L1.out]
          exact ho2
        have B2 := Hid.mk' hb2
        clear ho1 ho2 hg1 hg2 hb1 hb2 q0 q1 q2 HS HO HOV
        go_roundw
        case rel => exact ⟨k + 1, P + C, q ++ (d.drop c).take (P - c) ++ h, by omega, by have := HPC.out; omega, by go_num, by go_num, by rw [← Z2.out]; congr 1, by rw [← HQ.out]; simp [List.append_assoc], by have := HQL.out; have := L1.out; simp only [List.length_append]; omega, O2.out, B2.out⟩
        case measure => simp [intOf]; omega
      · have HS := HS.out
        rw [if_neg hcf] at HS
        have HS := Hid.mk' HS
        go_wp2_with (first | (at_builtin; refine wpList_append_at _ rfl (.tmp 24) (.tmp 29) 22 rfl W.heap.size 5 (.int .u8 0) 1 1 Try.underlying22 Try.info5 rfl (by decide) u6 q.length (bcs q) rfl HOV.out (some ⟨b, o + f, none⟩) (P - f) (c - f) (bcs ((d.drop f).take (P - f))) rfl (by rw [bcs_len, L1.out]) (by have := (HS.out.below HBV.out).src; rwa [L1.out] at this) (bcs_one _) (by have := HQL.out; unfold maxLen; omega) (by have := HQL.out; omega) HBV.out.size ?_; intro v1 w2 ho1 hg1 hq1; have hb1 := HBV.out.grown hg1 HBV.out.size (own_lo HOV.out); have R2 := row_over HO.out RP.out hg1 (Nat.le_refl _); obtain ⟨p0', p1', p2', p3'⟩ := cells3 R2) | (at_builtin; refine wpList_append_at _ rfl (.tmp 31) (.tmp 33) 22 rfl W.heap.size 5 (.int .u8 0) 1 1 Try.underlying22 Try.info5 rfl (by decide) v1 _ _ rfl ho1 p h.length e (bcs h) rfl (bcs_len h) (HP.out.below hb1).src (bcs_one _) (by have := HQL.out; unfold maxLen; omega) (by have := HQL.out; omega) hb1.size ?_; intro v2 w3 ho2 hg2 hq2; clear hq2; have hb2 := hb1.grown hg2 hb1.size (own_lo ho1); have R3 := row_over2 HO.out RP.out.lt R2 hg2 (Nat.le_refl _) hq1; obtain ⟨p0'', p1'', p2'', p3''⟩ := cells3 R3; clear hq1))
        clear hV
        have O2 : Hid (w3.ownsRow W.heap.size 5 1 v2 (q ++ (d.drop f).take (P - f) ++ h).length (bcs (q ++ (d.drop f).take (P - f) ++ h))) := by
          show World.ownsRow _ _ _ _ _ _ _
          rw [bcs_append, bcs_append, List.length_append, List.length_append, L1.out]
          exact ho2
        have B2 := Hid.mk' hb2
        clear ho1 ho2 hg1 hg2 hb1 hb2 q0 q1 q2 HS HO HOV
        go_roundw
        case rel => exact ⟨k + 1, P + C, q ++ (d.drop f).take (P - f) ++ h, by omega, by have := HPC.out; omega, by go_num, by go_num, by rw [← Z2.out]; congr 1, by rw [← HQ.out]; simp [List.append_assoc], by have := HQL.out; have := L1.out; simp only [List.length_append]; omega, O2.out, B2.out⟩
        case measure => simp [intOf]; omega
    · have ci : ¬ (k : Int) < (l.length : Int) := by omega
      have e : k = l.length := by omega
      subst e
      rw [apl_end] at hq
      have HS := Hid.mk' ((HDW.out.below HB.out).rest hc hf)
      have HQ := Hid.mk' hq
      have L1 : (bcs (d.drop f)).length = (d.length - f) * 1 := by rw [bcs_len, List.length_drop]
      have L2 : Hid (t.length = q.length + (d.length - f)) := Hid.mk' (by rw [← hq, List.length_append, List.length_drop])
      clear hq hz
      by_cases h2 : 2000 < t.length
      · have EC : Hid (apC d l = 6) := Hid.mk' (by unfold apC; rw [if_pos H0.out, TT.out, if_pos h2])
        have EB : Hid (apB d l = []) := Hid.mk' (by unfold apB; rw [EC.out]; rfl)
        have h3' : 2000 < (t.length : Int) := by omega
        clear h2
        go_wp2_with (at_builtin; refine wpList_append_any _ rfl (.tmp 41) (.tmp 44) 22 rfl W.heap.size 5 (.int .u8 0) 1 1 Try.underlying22 Try.info5 rfl (by decide) _ q.length _ rfl HO.out (if c = f then some ⟨b, o, none⟩ else some ⟨b, o + f, none⟩) (d.length - f) (c - f) (bcs (d.drop f)) rfl L1 (by have := HS.out.src; rwa [List.length_drop] at this) (bcs_one _) (by unfold maxLen; omega) (by omega) HB.out.size ?_; intro v3 w3 ho3 hg3; have hb3 := HB.out.grown hg3 HB.out.size (fun k hk => own_lo HO.out k hk); rw [← L2.out, ← bcs_append, HQ.out] at ho3; obtain ⟨o3, lo3⟩ := OB.of_own ho3; obtain ⟨va, vc, ev, _⟩ := o3.len; subst ev; have RZ := rowB RR.out hb3; obtain ⟨b0, b1, _⟩ := cells2 RZ; have f0 := RZ.frozen 0; have f1 := RZ.frozen 1)
        all_goals
          have BZ := Hid.mk' (BB.out.trans (hb3.mono BB.out.size))
          clear ho3 hg3 hb3 RZ o3 lo3
          refine bodyPost_ret (v := .agg #[.int .i64 6, .slice none 0 0]) (by simp [results, Try.results40, go_sem, *]) rfl ?_
          refine ⟨_, by rw [EC.out], ?_, In.nil _ _, (BZ.out.setCell (p := ⟨w.heap.size, 0, none⟩) (Nat.le_refl _) _).setCell (p := ⟨w.heap.size, 1, none⟩) (Nat.le_refl _) _⟩
          rw [EB.out]
          exact OB.none _
      · have EC : Hid (apC d l = 0) := Hid.mk' (by unfold apC; rw [if_pos H0.out, TT.out, if_neg h2])
        have EB : Hid (apB d l = t) := Hid.mk' (by unfold apB; rw [EC.out]; exact TT.out)
        have h3' : ¬ 2000 < (t.length : Int) := by omega
        clear h2
        go_wp2_with (at_builtin; refine wpList_append_any _ rfl (.tmp 41) (.tmp 44) 22 rfl W.heap.size 5 (.int .u8 0) 1 1 Try.underlying22 Try.info5 rfl (by decide) _ q.length _ rfl HO.out (if c = f then some ⟨b, o, none⟩ else some ⟨b, o + f, none⟩) (d.length - f) (c - f) (bcs (d.drop f)) rfl L1 (by have := HS.out.src; rwa [List.length_drop] at this) (bcs_one _) (by unfold maxLen; omega) (by omega) HB.out.size ?_; intro v3 w3 ho3 hg3; have hb3 := HB.out.grown hg3 HB.out.size (fun k hk => own_lo HO.out k hk); rw [← L2.out, ← bcs_append, HQ.out] at ho3; obtain ⟨o3, lo3⟩ := OB.of_own ho3; obtain ⟨va, vc, ev, _⟩ := o3.len; subst ev; have RZ := rowB RR.out hb3; obtain ⟨b0, b1, _⟩ := cells2 RZ; have f0 := RZ.frozen 0; have f1 := RZ.frozen 1)
        all_goals
          have BZ := Hid.mk' (BB.out.trans (hb3.mono BB.out.size))
          have I3 : Hid (In W.heap.size w3.heap.size (.slice va t.length vc)) := Hid.mk' (fun k hk => ⟨lo3 k hk, o3.lt k hk⟩)
          have O3 := Hid.mk' o3
          have s1 := RR.out.lt
          clear ho3 hg3 hb3 RZ o3 lo3
          refine bodyPost_ret (v := .agg #[.int .i64 0, .slice va t.length vc]) (by simp [results, Try.results40, go_sem, *]) rfl ?_
          have hk := kept2 w3 w.heap.size 0 1 (.int .i64 0) (.slice va t.length vc)
          refine ⟨_, by rw [EC.out], ?_, I3.out.mono (by omega) hk.size, BZ.out.trans (hk.below (by omega) BZ.out.size)⟩
          rw [EB.out]
          exact O3.out.kept I3.out hk (.inr (by omega))

end Go.Proofs.Ytbdjppiagjhfmaa
