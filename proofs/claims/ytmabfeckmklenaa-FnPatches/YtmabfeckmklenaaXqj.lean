/- The law FnPatches. -/
import Derived.Test.YtmabfeckmklenaaXqi
import Derived.BigGuard
namespace Go.Proofs.Ytmabfeckmklenaa
open Go.RowKit
set_option linter.unusedVariables false
set_option linter.unusedSimpArgs false

theorem fIR0 (c v : Int) (w : World) : (Instr.field 44 (.agg #[.int .i64 c, .int .i64 v]) 0).run Try.prog w = .ok (.int .i64 c) w := by kernel_rfl

theorem fIR1 (c v : Int) (w : World) : (Instr.field 44 (.agg #[.int .i64 c, .int .i64 v]) 1).run Try.prog w = .ok (.int .i64 v) w := by kernel_rfl

theorem fBR0 (c : Int) (a : Value) (w : World) : (Instr.field 35 (.agg #[.int .i64 c, a]) 0).run Try.prog w = .ok (.int .i64 c) w := by kernel_rfl

theorem fBR1 (c : Int) (a : Value) (w : World) : (Instr.field 35 (.agg #[.int .i64 c, a]) 1).run Try.prog w = .ok a w := by kernel_rfl

set_option maxRecDepth 100000 in
set_option maxHeartbeats 6400000 in
theorem lawFP_any (q : Option Addr) (c' : Nat) (l : List Int) (w : World) (hd : BAt w q l) (hu : ∀ i, i < l.length → 0 ≤ l.getD i 0 ∧ l.getD i 0 ≤ 255) (hl : (l.length : Int) ≤ 9223372036854775807) :
    Calls Try.prog 4 #[.slice q l.length c'] w fun e w' => e = .returned (.bool true) ∧ Below w.heap.size w w' := by
  have K0 := Hid.mk' (lwBigD_any q c' l.length w)
  by_cases g1 : (1048576 : Int) < (l.length : Int)
  · go_enter Try.func4, Try.ntmps4
    go_wp2_with fail
    refine K0.out.mono ?_
    rintro e w1 ⟨rfl, hw1⟩
    obtain rfl := hw1.symm
    rw [decide_eq_true g1]
    go_wp2
    go_ret
    exact ⟨rfl, Below.refl _ _⟩
  have ll : (l.length : Int) ≤ 1048576 := by omega
  have KA := Hid.mk' (drawAP_any q c' l w hd hu ll)
  have KF := Hid.mk' (fun W (hW : Below w.heap.size w W) => drawPF_any q c' l W (hd.below hW) hu ll)
  have KS := Hid.mk' (fun W (hW : Below w.heap.size w W) => drawPS_any q c' l W (hd.below hW) hu ll)
  clear hd hu
  go_enter Try.func4, Try.ntmps4
  go_wp2_with fail
  refine K0.out.mono ?_
  rintro e w1 ⟨rfl, hw1⟩
  obtain rfl := hw1.symm
  rw [decide_eq_false (show ¬ (1048576 : Int) < (l.length : Int) by omega)]
  clear K0 g1 hw1
  go_wp2_with fail
  refine KA.out.mono ?_
  rintro e w2 ⟨D, gD, cD, aL, L, cL, rfl, hD, hcD, hlD, hL, tL, nL, hb2⟩
  have HD := Hid.mk' hD
  have HL := Hid.mk' hL
  have TL := Hid.mk' tL
  have B2 := Hid.mk' hb2
  clear KA hD hL tL hb2
  go_wp2_with fail
  refine (implAP_any gD 0 cD D aL cL L w2 HD.out hcD HL.out TL.out.wide (by omega)).mono ?_
  rintro e w3 ⟨v, rfl, ho, _, hb3⟩
  obtain ⟨va, vc, ev, hv⟩ := ho.len
  subst ev
  have N3 := below_new w3 (.cells #[.int .i64 (apC D L), .slice va (apB D L).length vc] 35)
  have M3 := hb3.trans (N3.mono hb3.size)
  have B3 := Hid.mk' (B2.out.trans (M3.mono B2.out.size))
  have HD3 := Hid.mk' (HD.out.below M3)
  have HL3 := Hid.mk' (HL.out.below M3)
  have V3 := Hid.mk' (hv.below N3)
  have R3 := Hid.mk' (rowp2 w3 35 (.int .i64 (apC D L)) (.slice va (apB D L).length vc))
  clear hb3 hv ho N3 M3 B2 HD HL
  generalize hW : w3.alloc (.cells #[.int .i64 (apC D L), .slice va (apB D L).length vc] 35) = W at *
  go_wp2_with fail
  clear hW
  refine (KF.out W B3.out).mono ?_
  rintro e w4 ⟨aX, X, cX, z, rfl, hX, tX, nX, hb4⟩
  have B4 := Hid.mk' (B3.out.trans (hb4.mono B3.out.size))
  have HD4 := Hid.mk' (HD3.out.below hb4)
  have HL4 := Hid.mk' (HL3.out.below hb4)
  have V4 := Hid.mk' (V3.out.below hb4)
  have R4 := Hid.mk' (rowB R3.out hb4)
  have HX := Hid.mk' hX
  have TX := Hid.mk' tX
  clear hb4 hX tX KF B3 HD3 HL3 V3 R3
  go_wp2_with fail
  refine (KS.out w4 B4.out).mono ?_
  rintro e w5 ⟨aY, Y, cY, rfl, hY, tY, nY, hb5⟩
  have B5 := Hid.mk' (B4.out.trans (hb5.mono B4.out.size))
  have HD5 := Hid.mk' (HD4.out.below hb5)
  have HL5 := Hid.mk' (HL4.out.below hb5)
  have V5 := Hid.mk' (V4.out.below hb5)
  have R5 := Hid.mk' (rowB R4.out hb5)
  have HX5 := Hid.mk' (HX.out.below hb5)
  have HY := Hid.mk' hY
  have TY := Hid.mk' tY
  clear hb5 hY tY KS B4 HD4 HL4 V4 R4 HX
  have zX : (X.length : Int) + xsz X ≤ 1048576 := by have := TX.out.sz; omega
  have zY : (Y.length : Int) + xsz Y ≤ 1048576 := by have := TY.out.sz; omega
  have zL : (L.length : Int) + xsz L ≤ 1048576 := by have := TL.out.sz; omega
  have KFI : Hid (∀ v, Below w5.heap.size w5 v → Calls Try.prog 10 #[.slice aX X.length cX, .int .i64 z] v fun e w' => e = .returned (.int .i64 (patF X z)) ∧ Below w5.heap.size w5 w') := Hid.mk' (fun v hv => (implPF_any aX cX X z v (HX5.out.below hv) TX.out.wide).mono (fun e w' h => ⟨h.1, hv.trans (h.2.mono hv.size)⟩))
  have KFS : Hid (∀ v, Below w5.heap.size w5 v → Calls Try.prog 16 #[.slice aX X.length cX, .int .i64 z] v fun e w' => e = .returned (.int .i64 (patF X z)) ∧ Below w5.heap.size w5 w') := Hid.mk' (fun v hv => (specPF_any aX cX X z v (HX5.out.below hv) TX.out.wide).mono (fun e w' h => ⟨h.1, hv.trans (h.2.mono hv.size)⟩))
  have KZI : Hid (∀ v, Below w5.heap.size w5 v → Calls Try.prog 17 #[.slice aY Y.length cY] v fun e w' => e = .returned (.agg #[.int .i64 (psC Y), .int .i64 (psV Y)]) ∧ Below w5.heap.size w5 w') := Hid.mk' (fun v hv => (implPS_any aY cY Y v (HY.out.below hv) zY).mono (fun e w' h => ⟨h.1, hv.trans (h.2.mono hv.size)⟩))
  have KZS : Hid (∀ v, Below w5.heap.size w5 v → Calls Try.prog 18 #[.slice aY Y.length cY] v fun e w' => e = .returned (.agg #[.int .i64 (psC Y), .int .i64 (psV Y)]) ∧ Below w5.heap.size w5 w') := Hid.mk' (fun v hv => (specPS_any aY cY Y v (HY.out.below hv) zY).mono (fun e w' h => ⟨h.1, hv.trans (h.2.mono hv.size)⟩))
  have KLI : Hid (∀ v, Below w5.heap.size w5 v → Calls Try.prog 17 #[.slice aL L.length cL] v fun e w' => e = .returned (.agg #[.int .i64 (psC L), .int .i64 (psV L)]) ∧ Below w5.heap.size w5 w') := Hid.mk' (fun v hv => (implPS_any aL cL L v (HL5.out.below hv) zL).mono (fun e w' h => ⟨h.1, hv.trans (h.2.mono hv.size)⟩))
  have KAS : Hid (∀ v, Below w5.heap.size w5 v → Calls Try.prog 19 #[.slice (some ⟨gD, 0, none⟩) D.length cD, .slice aL L.length cL] v fun e w' => ∃ a5 c5, e = .returned (.agg #[.int .i64 (apC D L), .slice a5 (apB D L).length c5]) ∧ BAt w' a5 (apB D L) ∧ Below w5.heap.size w5 w') := Hid.mk' (fun v hv => by
    refine (specAP_any gD 0 cD D aL cL L v (HD5.out.below hv) hcD (HL5.out.below hv) TL.out.wide (by omega)).mono ?_
    rintro e w' ⟨u, rfl, ho, _, hb⟩
    obtain ⟨a5, c5, eu, hu⟩ := ho.len
    subst eu
    exact ⟨a5, c5, rfl, hu, hv.trans (hb.mono hv.size)⟩)
  have h0 := fIR0
  have h1 := fIR1
  generalize patF X z = pf at *
  generalize psC Y = yc at *
  generalize psV Y = yv at *
  have b00 : Below w5.heap.size w5 w5 := Below.refl _ _
  clear zX zY
  have h2 := fBR0
  have h3 := fBR1
  by_cases hc : apC D L = 0
  · have AS := Hid.mk' (ap_sum hc)
    rw [hc] at R5 KAS
    generalize apB D L = r at *
    generalize psC L = pc at *
    generalize psV L = pv at *
    go_wp2_with (first | (go_at_call 10; refine (KFI.out _ (by first | assumption | exact Below.drew (by assumption))).mono ?_; rintro e w6 ⟨rfl, hb6⟩) | (go_at_call 16; refine (KFS.out _ (by first | assumption | exact Below.drew (by assumption))).mono ?_; rintro e w7 ⟨rfl, hb7⟩) | (go_at_call 17; refine (KZI.out _ (by first | assumption | exact Below.drew (by assumption))).mono ?_; rintro e w8 ⟨rfl, hb8⟩; obtain ⟨y0, y1, y2⟩ := cells2 (rowB R5.out hb8)) | (go_at_call 18; refine (KZS.out _ (by first | assumption | exact Below.drew (by assumption))).mono ?_; rintro e w9 ⟨rfl, hb9⟩; obtain ⟨y0, y1, y2⟩ := cells2 (rowB R5.out hb9)))
    have HL9 := Hid.mk' (HL5.out.below hb9)
    have HB9 := Hid.mk' hb9
    have V9 := Hid.mk' (V5.out.below hb9)
    have R9 := Hid.mk' (rowB R5.out hb9)
    have nD : IntKind.i64.wrap (D.length : Int) = (D.length : Int) := by rw [IntKind.wrap_i64]; omega
    clear y0 y1 y2 hb9 HX5 HY HL5 KFI KFS KZI KZS
    go_loopw [9, 10] (fun c i wr => ∃ k : Nat, k ≤ L.length ∧ i = .int .i64 k ∧ c = .int .i64 (xct (L.take k)) ∧ wr = w9) (fun _ i _ => L.length - (intOf i).toNat)
    case atStart => exact ⟨0, Nat.zero_le _, rfl, rfl, rfl⟩
    case round =>
      obtain ⟨k, hk, rfl, rfl, hw⟩ := hrel
      obtain rfl := hw.symm
      by_cases hlt : k < L.length
      · have ci : (k : Int) < (L.length : Int) := by omega
        rcases HL9.out with ha | ⟨b, o, rfl, hbs, hcell⟩
        · exact absurd hlt (by rw [ha]; exact Nat.not_lt_zero _)
        obtain ⟨q1, q3, p, d, q2, _⟩ := hcell k hlt
        have st := xct_take L k hlt
        have sb := (AS.out.2.1 (k + 1))
        rw [st] at sb
        have wr1 : IntKind.i64.wrap (xct (L.take k) + (xkK L k).ct) = xct (L.take (k + 1)) := by rw [IntKind.wrap_i64]; omega
        have ST := Hid.mk' st
        clear hcell sb st
        go_wp2
        go_roundw
        case rel => exact ⟨k + 1, by omega, by go_num, by first | trivial | rw [ST.out], by first | rfl | trivial⟩
        case measure => simp [intOf]; omega
      · have ke : k = L.length := by omega
        subst ke
        have ci : ¬ (L.length : Int) < (L.length : Int) := by omega
        obtain ⟨y0, y1, y2⟩ := cells2 R9.out
        have as1 := AS.out
        rw [List.take_length]
        have e1 : IntKind.i64.wrap ((D.length : Int) - xct L) = (D.length : Int) - xct L := by rw [IntKind.wrap_i64]; have := as1.2.1 L.length; rw [List.take_length] at this; omega
        have e2 : IntKind.i64.wrap ((D.length : Int) - xct L + pv) = (r.length : Int) := by rw [← as1.1, IntKind.wrap_i64]; have := as1.2.1 L.length; rw [List.take_length] at this; omega
        have e3 : IntKind.i64.wrap (r.length : Int) = (r.length : Int) := by rw [IntKind.wrap_i64]; have := as1.2.1 L.length; rw [List.take_length] at this; omega
        have KLB : Hid (∀ v a5 c5, BAt v va r → BAt v a5 r → Calls Try.prog 9 #[.slice va r.length vc, .slice a5 r.length c5] v fun e w' => e = .returned (.bool true) ∧ w' = v) := Hid.mk' (fun v a5 c5 g1 g2 => by
          have := lwBytes_beq va a5 vc c5 r r v g1 g2
          rwa [beqB_refl] at this)
        clear as1
        have y1b := y1
        go_wp2_with fail
        go_region_held3 (fun w' => w'.cell? ⟨w3.heap.size, 1, none⟩ = some (.slice va r.length vc)) (simp [*])
          (first | (go_at_call 17; refine (KLI.out _ (by first | assumption | exact HB9.out | exact Below.drew HB9.out | exact Below.drew (by assumption))).mono ?_; rintro e wa ⟨rfl, hba⟩; obtain ⟨x0, x1, x2⟩ := cells2 (rowB R5.out hba)) | (go_at_call 19; refine (KAS.out _ (by first | assumption | exact HB9.out | exact Below.drew HB9.out | exact Below.drew (by assumption))).mono ?_; rintro e wb ⟨a5, c5, rfl, hu5, hbb⟩; obtain ⟨z0, z1, z2⟩ := cells2 (rowB R5.out hbb)) | (go_at_call 9; refine (KLB.out _ _ _ (V5.out.below hbb) hu5).mono ?_; rintro e wc ⟨rfl, hwc⟩; obtain rfl := hwc.symm))
        go_wp2
        go_ret
        exact ⟨rfl, B5.out.trans (hbb.mono B5.out.size)⟩
  · have hc0 : (apC D L == 0) = false := by rw [beq_eq_false_iff_ne]; exact hc
    generalize apC D L = ac at *
    generalize apB D L = r at *
    go_wp2_with (first | (go_at_call 10; refine (KFI.out _ (by first | assumption | exact Below.drew (by assumption))).mono ?_; rintro e w6 ⟨rfl, hb6⟩) | (go_at_call 16; refine (KFS.out _ (by first | assumption | exact Below.drew (by assumption))).mono ?_; rintro e w7 ⟨rfl, hb7⟩) | (go_at_call 17; refine (KZI.out _ (by first | assumption | exact Below.drew (by assumption))).mono ?_; rintro e w8 ⟨rfl, hb8⟩; obtain ⟨y0, y1, y2⟩ := cells2 (rowB R5.out hb8)) | (go_at_call 18; refine (KZS.out _ (by first | assumption | exact Below.drew (by assumption))).mono ?_; rintro e w9 ⟨rfl, hb9⟩; obtain ⟨y0, y1, y2⟩ := cells2 (rowB R5.out hb9)) | (go_at_call 19; refine (KAS.out _ (by first | assumption | exact Below.drew (by assumption))).mono ?_; rintro e w10 ⟨a5, c5, rfl, hu5, hb10⟩; obtain ⟨y0, y1, y2⟩ := cells2 (rowB R5.out hb10)))
    go_region_held3 (fun w' => w'.cell? ⟨w3.heap.size, 0, none⟩ = some (.int .i64 ac)) (simp [*])
      ((go_at_call 19; refine (KAS.out _ (by first | assumption | exact Below.drew (by assumption))).mono ?_; rintro e w10 ⟨a5, c5, rfl, hu5, hb10⟩; obtain ⟨y0, y1, y2⟩ := cells2 (rowB R5.out hb10)))
    go_wp2
    go_ret
    exact ⟨rfl, B5.out.trans (hb10.mono B5.out.size)⟩

end Go.Proofs.Ytmabfeckmklenaa
