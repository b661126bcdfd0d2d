/- The walk of the law on references. -/
import Derived.Test.YthckoaddajpgcaaDoorXn
import Derived.Deep.RegionHeld3
namespace Go.Proofs.YthckoaddajpgcaaDoor
open Go.RowKit
set_option linter.unusedVariables false

set_option maxRecDepth 100000 in
set_option maxHeartbeats 8000000 in
theorem lawRefs_any (a : Option Addr) (c : Nat) (l : List Int) (w : World) (ha : BAt w a l) (hu : ∀ i, i < l.length → 0 ≤ l.getD i 0 ∧ l.getD i 0 ≤ 255) (hm : (l.length : Int) ≤ 9223372036854775807) (hr : Refs w) (he : Errs w) :
    Calls Tryd.prog 3 #[.slice a l.length c] w fun e w' => e = .returned (.bool true) ∧ Below w.heap.size w w' := by
  have HA := Hid.mk' ha
  have HU := Hid.mk' hu
  have HR := Hid.mk' hr
  have HE := Hid.mk' he
  have K0 := lwBig_any a c l.length w
  clear ha hu hr he
  by_cases hl : (l.length : Int) ≤ 1048576
  rotate_left
  · rw [decide_eq_true (by omega)] at K0
    have KK := Hid.mk' K0
    clear K0
    go_enter Tryd.func3, Tryd.ntmps3
    go_wp2_with fail
    refine KK.out.mono ?_
    rintro e w1 ⟨rfl, rfl⟩
    go_wp2
    go_ret
    exact ⟨rfl, Below.refl _ _⟩
  rw [decide_eq_false (by omega)] at K0
  have KK := Hid.mk' K0
  clear K0
  go_enter Tryd.func3, Tryd.ntmps3
  go_wp2_with fail
  refine KK.out.mono ?_
  rintro e w0 ⟨rfl, rfl⟩
  clear KK
  go_wp2_with fail
  refine (drawEscapeText_any a c l _ HA.out HU.out hl).mono ?_
  rintro e w1 ⟨D, a1, c1, rfl, hD, hDl, hDu, hb1⟩
  have BW1 := Hid.mk' hb1
  have BD1 := Hid.mk' hD
  have DU := Hid.mk' hDu
  clear hb1 hD hDu
  go_wp2_with fail
  refine (implET_any a1 c1 D w1 (HR.out.below BW1.out) BD1.out (bytes_mem DU.out) (by omega)).mono ?_
  rintro e w2 ⟨rfl, hb2⟩
  have N2 := below_new w2 (.cells #[.int .i64 (etCode D), .string (etText D)] 26)
  have hb2' := hb2.trans (N2.mono hb2.size)
  have BW2 := Hid.mk' (BW1.out.trans (hb2'.mono BW1.out.size))
  have BD2 := Hid.mk' (BD1.out.below hb2')
  have Q2 := Hid.mk' (rowp2 w2 26 (.int .i64 (etCode D)) (.string (etText D)))
  clear hb2 hb2' N2 BW1 BD1
  generalize hW2 : w2.alloc (.cells #[.int .i64 (etCode D), .string (etText D)] 26) = W2 at *
  go_wp2_with fail
  clear hW2
  refine (drawRefAt_any a c l _ (HA.out.below BW2.out) HU.out hl).mono ?_
  rintro e w3 ⟨s, x, rfl, hs, x0, x1, hb3⟩
  have BW3 := Hid.mk' (BW2.out.trans (hb3.mono BW2.out.size))
  have BD3 := Hid.mk' (BD2.out.below hb3)
  have Q3 := Hid.mk' (rowB Q2.out hb3)
  clear hb3 BW2 BD2 Q2
  go_wp2_with fail
  refine (implRA_any s x w3 (by omega) (by omega) (by omega) (HR.out.below BW3.out) (HE.out.below BW3.out)).mono ?_
  rintro e w4 ⟨rfl, hb4⟩
  have KA : Hid (∀ W : World, Calls Tryd.prog 11 #[.string s, .int .i64 x] W fun e w' => e = .returned (.agg #[.int .i64 (raOf s.data.toList x).1, .int .i64 (raOf s.data.toList x).2.1, .int .i64 (raOf s.data.toList x).2.2]) ∧ Below W.heap.size W w') := fun W => specRA_any s x W (by omega) (by omega) (by omega)
  generalize (raOf s.data.toList x).1 = r1 at *
  generalize (raOf s.data.toList x).2.1 = r2 at *
  generalize (raOf s.data.toList x).2.2 = r3_ at *
  have N4 := below_new w4 (.cells #[.int .i64 r1, .int .i64 r2, .int .i64 r3_] 31)
  have hb4' := hb4.trans (N4.mono hb4.size)
  have BW4 := Hid.mk' (BW3.out.trans (hb4'.mono BW3.out.size))
  have BD4 := Hid.mk' (BD3.out.below hb4')
  have Q4 := Hid.mk' (rowB Q3.out hb4')
  have P4 := Hid.mk' (row3 w4 31 (.int .i64 r1) (.int .i64 r2) (.int .i64 r3_))
  clear hb4 hb4' N4 BW3 BD3 Q3
  generalize hW4 : w4.alloc (.cells #[.int .i64 r1, .int .i64 r2, .int .i64 r3_] 31) = W4 at *
  go_wp2_with fail
  clear hW4
  refine (drawDecodeText_any a c l _ (HA.out.below BW4.out) HU.out hl).mono ?_
  rintro e w5 ⟨t, rfl, ht, hb5⟩
  have BW5 := Hid.mk' (BW4.out.trans (hb5.mono BW4.out.size))
  have BD5 := Hid.mk' (BD4.out.below hb5)
  have Q5 := Hid.mk' (rowB Q4.out hb5)
  have P5 := Hid.mk' (rowB P4.out hb5)
  clear hb5 BW4 BD4 Q4 P4
  go_wp2_with fail
  refine (drawEscapeByte_any a c l _ (HA.out.below BW5.out) HU.out hl).mono ?_
  rintro e w6 ⟨y, rfl, y0, y1, hb6⟩
  have BW := Hid.mk' (BW5.out.trans (hb6.mono BW5.out.size))
  have BD := Hid.mk' (BD5.out.below hb6)
  have Q4 := Hid.mk' (rowB Q5.out hb6)
  have P6 := Hid.mk' (rowB P5.out hb6)
  clear hb6 BW5 BD5 Q5 P5
  have KI : Hid (∀ W : World, Below w0.heap.size w0 W → Calls Tryd.prog 12 #[.string t] W fun e w' => ∃ v, e = .returned (.agg #[.int .i64 (decC t.data.toList), v]) ∧ OB w' v (decV t.data.toList) ∧ In W.heap.size w'.heap.size v ∧ Below W.heap.size W w') := fun W hb => implDec_any t W (by omega) (HR.out.below hb) (HE.out.below hb)
  have KS : Hid (∀ W : World, Calls Tryd.prog 13 #[.string t] W fun e w' => ∃ v, e = .returned (.agg #[.int .i64 (decC t.data.toList), v]) ∧ OB w' v (decV t.data.toList) ∧ In W.heap.size w'.heap.size v ∧ Below W.heap.size W w') := fun W => specDec_any t W (by omega)
  have VU := Hid.mk' (decV_u8 t.data.toList)
  have EI : Hid (∀ W : World, Below w0.heap.size w0 W → Calls Tryd.prog 15 #[.int .i64 y] W fun e w' => e = .returned (.agg #[.int .i64 (ebCode y), .string (ebText y)]) ∧ Below W.heap.size W w') := fun W hb => implEB_any y W (HR.out.below hb)
  have ES : Hid (∀ W : World, Calls Tryd.prog 16 #[.int .i64 y] W fun e w' => e = .returned (.agg #[.int .i64 (ebCode y), .string (ebText y)]) ∧ Below W.heap.size W w') := fun W => specEB_any y W
  generalize decC t.data.toList = vc at *
  generalize decV t.data.toList = V at *
  generalize ebCode y = yc at *
  generalize ebText y = yt at *
  obtain ⟨n0, n1, n2, gl⟩ := row3c P6.out
  have ng := neq31 r1 r2 r3_
  have fa := field36_0
  have fb := field36_1
  have fc := field26_0
  have fd := field26_1
  clear P6 y0 y1 x0 x1 hs ht
  go_wp2
  go_region_held3 (fun w' => w'.cell? ⟨w4.heap.size, 0, none⟩ = some (.int .i64 r1) ∧ w'.cell? ⟨w4.heap.size, 1, none⟩ = some (.int .i64 r2) ∧ w'.cell? ⟨w4.heap.size, 2, none⟩ = some (.int .i64 r3_)) (simp [*])
    (first | (go_at_call 11; refine (KA.out _).mono ?_; rintro e u ⟨rfl, hb⟩; replace hb := undrew hb; obtain ⟨hx, hy⟩ := bcell hb; have gl : w4.heap.size < u.heap.size := (by have := hb.size; omega); have BD := Hid.mk' (BD.out.below hb); have Q4 := Hid.mk' (rowB Q4.out hb); have BW := Hid.mk' (BW.out.trans (hb.mono BW.out.size)); clear hb) | (go_at_call 12; refine (KI.out _ BW.out).mono ?_; rintro e u ⟨v, rfl, ob, _, hb⟩; obtain ⟨pa, ca, rfl, ba⟩ := ob.len; have BA := Hid.mk' ba; obtain ⟨hx, hy⟩ := bcell hb; have gl : w4.heap.size < u.heap.size := (by have := hb.size; omega); have BD := Hid.mk' (BD.out.below hb); have Q4 := Hid.mk' (rowB Q4.out hb); have BW := Hid.mk' (BW.out.trans (hb.mono BW.out.size)); clear hb) | (go_at_call 13; refine (KS.out _).mono ?_; rintro e u ⟨v, rfl, ob, _, hb⟩; obtain ⟨pc, cc, rfl, bc⟩ := ob.len; have BC := Hid.mk' bc; have BA := Hid.mk' (BA.out.below hb); obtain ⟨hx, hy⟩ := bcell hb; have gl : w4.heap.size < u.heap.size := (by have := hb.size; omega); have BD := Hid.mk' (BD.out.below hb); have Q4 := Hid.mk' (rowB Q4.out hb); have BW := Hid.mk' (BW.out.trans (hb.mono BW.out.size)); clear hb) | (go_at_call 14; refine (lwBytes_same _ _ _ _ V _ BA.out BC.out VU.out).mono ?_; rintro e u ⟨rfl, rfl⟩) | (go_at_call 15; refine (EI.out _ BW.out).mono ?_; rintro e u ⟨rfl, hb⟩; obtain ⟨hx, hy⟩ := bcell hb; have gl : w4.heap.size < u.heap.size := (by have := hb.size; omega); have BD := Hid.mk' (BD.out.below hb); have Q4 := Hid.mk' (rowB Q4.out hb); have BW := Hid.mk' (BW.out.trans (hb.mono BW.out.size)); clear hb) | (go_at_call 16; refine (ES.out _).mono ?_; rintro e u ⟨rfl, hb⟩; obtain ⟨hx, hy⟩ := bcell hb; have gl : w4.heap.size < u.heap.size := (by have := hb.size; omega); have BD := Hid.mk' (BD.out.below hb); have Q4 := Hid.mk' (rowB Q4.out hb); have BW := Hid.mk' (BW.out.trans (hb.mono BW.out.size)); clear hb))
  clear KA KI KS VU EI ES BA BC ng n0 n1 n2 gl hx hy
  have KE : Hid (∀ W : World, BAt W a1 D → Calls Tryd.prog 17 #[.slice a1 D.length c1] W fun e w' => e = .returned (.agg #[.int .i64 (etCode D), .string (etText D)]) ∧ Below W.heap.size W w') := fun W hb => specET_any a1 c1 D W hb (bytes_mem DU.out) (by omega)
  obtain ⟨z0, z1, gl⟩ := cells2 Q4.out
  clear Q4
  by_cases big : 240 < D.length
  · have ec : etCode D = 6 := by unfold etCode; rw [if_pos big]
    rw [ec] at z0 KE
    generalize etText D = tx at *
    clear ec
    go_wp2
    go_region_held3 (fun w' => w'.cell? ⟨w2.heap.size, 0, none⟩ = some (.int .i64 6)) (simp [*])
      (first | (go_at_call 17; refine (KE.out _ (BD.out.below (Below.refl _ _).drew)).mono ?_; rintro e u' ⟨rfl, hb⟩; replace hb := undrew hb; obtain ⟨hx, hy⟩ := bcell hb; have BW := Hid.mk' (BW.out.trans (hb.mono BW.out.size)); clear hb))
    go_wp2
    go_ret
    exact ⟨by simp, BW.out⟩
  · have ec : etCode D = 0 := by unfold etCode; rw [if_neg big]
    have et : (etText D).data.toList = escAll D := by unfold etText; rw [if_neg big]
    have esz : (etText D).size = (escAll D).length := by rw [← et]; exact (len_list _).symm
    have eln := escAll_len D
    obtain ⟨dc1, dc2⟩ := dec_of_esc D DU.out (by omega)
    have KD : Hid (∀ W : World, Below w0.heap.size w0 W → Calls Tryd.prog 12 #[.string (etText D)] W fun e w' => ∃ v, e = .returned (.agg #[.int .i64 0, v]) ∧ OB w' v D ∧ In W.heap.size w'.heap.size v ∧ Below W.heap.size W w') := fun W hb => by
      have k := implDec_any (etText D) W (by omega) (HR.out.below hb) (HE.out.below hb)
      rw [et, dc1, dc2] at k
      exact k
    have CA : Hid (∀ k (h : k < (etText D).size), ∃ c : Nat, ((etText D)[k]'h).toNat = c ∧ ((c : Int) == 60) = false ∧ ((c : Int) == 62) = false ∧ ((c : Int) == 34) = false) := fun k h => by
      have g := get_list et k h
      refine ⟨_, g, ?_⟩
      have hk : k < (escAll D).length := by omega
      have cm := calm_esc D DU.out ((escAll D).getD k 0) (by rw [List.getD_eq_getElem?_getD, List.getElem?_eq_getElem hk]; exact List.getElem_mem hk)
      unfold calm at cm
      simp only [Bool.and_eq_true, decide_eq_true_eq] at cm
      refine ⟨?_, ?_, ?_⟩ <;> (rw [beq_eq_false_iff_ne]; omega)
    rw [ec] at z0 KE
    generalize hT : etText D = tx at *
    have n1440 : tx.size ≤ 1440 := by omega
    clear ec et esz eln dc1 dc2
    go_wp2
    go_loopw [10] (fun i wr => ∃ k : Nat, k ≤ tx.size ∧ i = .int .i64 k ∧ wr = u) (fun i _ => tx.size - (intOf i).toNat)
    case atStart => exact ⟨0, Nat.zero_le _, rfl, rfl⟩
    case round =>
      obtain ⟨k, hk, rfl, rfl⟩ := hrel
      by_cases hlt : k < tx.size
      · obtain ⟨cc, hc, b1, b2, b3⟩ := CA.out k hlt
        have ci : (k : Int) < (tx.size : Int) := by omega
        go_wp2
        go_roundw
        case rel => exact ⟨k + 1, by omega, by go_num, trivial⟩
        case measure => simp [intOf]; omega
      · have ci : ¬ (k : Int) < (tx.size : Int) := by omega
        go_wp2
        go_region_held3 (fun w' => w'.cell? ⟨w2.heap.size, 1, none⟩ = some (.string tx)) (simp [*])
          (first | (go_at_call 12; (first | refine (KD.out _ BW.out).mono ?_ | refine (KD.out _ BW.out.drew).mono ?_); rintro e u' ⟨v, rfl, ob, _, hb⟩; (try (replace hb := undrew hb)); obtain ⟨pa, ca, rfl, ba⟩ := ob.len; have BA := Hid.mk' ba; obtain ⟨hx, hy⟩ := bcell hb; have gl : w2.heap.size < u'.heap.size := (by have := hb.size; omega); have BD := Hid.mk' (BD.out.below hb); have BW := Hid.mk' (BW.out.trans (hb.mono BW.out.size)); clear hb) | (go_at_call 14; refine (lwBytes_same _ _ _ _ D _ BA.out BD.out DU.out).mono ?_; rintro e u' ⟨rfl, rfl⟩) | (go_at_call 17; refine (KE.out _ BD.out).mono ?_; rintro e u' ⟨rfl, hb⟩; obtain ⟨hx, hy⟩ := bcell hb; have gl : w2.heap.size < u'.heap.size := (by have := hb.size; omega); have BD := Hid.mk' (BD.out.below hb); have BW := Hid.mk' (BW.out.trans (hb.mono BW.out.size)); clear hb))
        go_wp2
        go_ret
        exact ⟨by simp, BW.out⟩

end Go.Proofs.YthckoaddajpgcaaDoor
