/- Elements of one tag, counted: both sides' CountTags, and the law. -/
import Derived.Test.YtngdcpmolbpoeaaGn
namespace Go.Proofs.Ytngdcpmolbpoeaa
open Go.RowKit
set_option linter.unusedVariables false
set_option linter.unusedSimpArgs false

/-- An element of that tag. -/
def hitB (t : ND) (s : ByteArray) : Bool := !(t.tg.toList == []) && (t.tg.toList == s.toList)

/-- How many of the first k are so. -/
def cntU (l : List ND) (s : ByteArray) : Nat → Nat
  | 0 => 0
  | k + 1 => cntU l s k + (if hitB (ndK l k) s = true then 1 else 0)

theorem cntU_le (l : List ND) (s : ByteArray) : ∀ k, cntU l s k ≤ k
  | 0 => Nat.le_refl _
  | k + 1 => by have := cntU_le l s k; unfold cntU; split <;> omega

/-- What CountTags tells. -/
def cntR (l : List ND) (s : ByteArray) : Int := if treeF l = 0 then (cntU l s l.length : Int) else 0

set_option maxHeartbeats 1600000 in
theorem specCount_any (a : Option Addr) (c : Nat) (l : List ND) (s : ByteArray) (w : World) (ha : NsAt w a l) (hl : (l.length : Int) + nssz l ≤ 1048576) :
    Calls Try.prog 10 #[.slice a l.length c, .string s] w fun e w' => e = .returned (.agg #[.int .i64 (treeF l), .int .i64 (cntR l s)]) ∧ Below w.heap.size w w' := by
  have N0 := below_new w (.cells #[.int .i64 0, .int .i64 0] 30)
  have KF := l6Fault_any a c l _ (ha.below N0) hl
  have RB := Hid.mk' (rowp2 w 30 (.int .i64 0) (.int .i64 0))
  have HN := Hid.mk' N0
  have HA := Hid.mk' (ha.below N0)
  clear ha N0
  generalize hW : w.alloc (.cells #[.int .i64 0, .int .i64 0] 30) = W at *
  by_cases h0 : treeF l = 0
  · have E : Hid (cntR l s = (cntU l s l.length : Int)) := Hid.mk' (by unfold cntR; rw [if_pos h0])
    have HE := Hid.mk' h0
    rw [h0] at KF
    have KF := Hid.mk' KF
    clear h0
    go_enter Try.func10, Try.ntmps10
    go_wp2_with fail
    clear hW
    refine KF.out.mono ?_
    rintro e w1 ⟨rfl, hb⟩
    have R1 := rowB RB.out hb
    have HB := Hid.mk' (HN.out.trans (hb.mono HN.out.size))
    have HC := Hid.mk' (HA.out.below hb)
    obtain ⟨b0, b1, b2⟩ := cells2 R1
    have f0 := R1.frozen 0
    have f1 := R1.frozen 1
    clear hb KF R1
    go_wp2_with fail
    go_loop [6, 7] (fun v i => ∃ k : Nat, k ≤ l.length ∧ i = .int .i64 k ∧ v = .int .i64 (cntU l s k : Int)) (fun _ i => l.length - (intOf i).toNat)
    case atStart => exact ⟨0, Nat.zero_le _, rfl, rfl⟩
    case round =>
      obtain ⟨k, hk, rfl, rfl⟩ := hrel
      have hc1 := cntU_le l s k
      by_cases hlt : k < l.length
      · have ci : (k : Int) < (l.length : Int) := by omega
        rcases HC.out with ha | ⟨b, o, rfl, hbs, hc⟩
        · exact absurd hlt (by rw [ha]; exact Nat.not_lt_zero _)
        obtain ⟨_, q1, _⟩ := hc k hlt
        clear hc
        have st : Hid (cntU l s (k + 1) = cntU l s k + (if hitB (ndK l k) s = true then 1 else 0)) := Hid.mk' rfl
        cases h1 : ((ndK l k).tg.toList == [])
        · cases h2 : ((ndK l k).tg.toList == s.toList)
          · have e1 : Hid (cntU l s (k + 1) = cntU l s k) := Hid.mk' (by rw [st.out]; simp [hitB, h2])
            go_wp2
            go_round
            case rel => exact ⟨k + 1, by omega, by go_num, by rw [e1.out]⟩
            case measure => simp [intOf]; omega
          · have e1 : Hid (cntU l s (k + 1) = cntU l s k + 1) := Hid.mk' (by rw [st.out]; simp [hitB, h1, h2])
            go_wp2
            go_round
            case rel => exact ⟨k + 1, by omega, by go_num, by rw [e1.out]; go_num⟩
            case measure => simp [intOf]; omega
        · have e1 : Hid (cntU l s (k + 1) = cntU l s k) := Hid.mk' (by rw [st.out]; simp [hitB, h1])
          go_wp2
          go_round
          case rel => exact ⟨k + 1, by omega, by go_num, by rw [e1.out]⟩
          case measure => simp [intOf]; omega
      · have ci : ¬ (k : Int) < (l.length : Int) := by omega
        have e : k = l.length := by omega
        subst e
        go_wp2
        refine bodyPost_ret (v := .agg #[.int .i64 0, .int .i64 (cntU l s l.length : Int)]) (by simp [results, Try.results10, go_sem, *]) rfl ?_
        exact ⟨by rw [HE.out, E.out], (HB.out.setCell (p := ⟨w.heap.size, 0, none⟩) (Nat.le_refl _) _).setCell (p := ⟨w.heap.size, 1, none⟩) (Nat.le_refl _) _⟩
  · have E : Hid (cntR l s = 0) := Hid.mk' (by unfold cntR; rw [if_neg h0])
    have KF := Hid.mk' KF
    go_enter Try.func10, Try.ntmps10
    go_wp2_with fail
    clear hW
    refine KF.out.mono ?_
    rintro e w1 ⟨rfl, hb⟩
    have R1 := rowB RB.out hb
    have HB := Hid.mk' (HN.out.trans (hb.mono HN.out.size))
    obtain ⟨b0, b1, b2⟩ := cells2 R1
    have f0 := R1.frozen 0
    have f1 := R1.frozen 1
    clear hb KF R1
    go_wp2
    refine bodyPost_ret (v := .agg #[.int .i64 (treeF l), .int .i64 0]) (by simp [results, Try.results10, go_sem, *]) rfl ?_
    exact ⟨by rw [E.out], (HB.out.setCell (p := ⟨w.heap.size, 0, none⟩) (Nat.le_refl _) _).setCell (p := ⟨w.heap.size, 1, none⟩) (Nat.le_refl _) _⟩

set_option maxHeartbeats 1600000 in
theorem implCount_any (a : Option Addr) (c : Nat) (l : List ND) (s : ByteArray) (w : World) (ha : NsAt w a l) (hl : (l.length : Int) + nssz l ≤ 1048576) :
    Calls Try.prog 11 #[.slice a l.length c, .string s] w fun e w' => e = .returned (.agg #[.int .i64 (treeF l), .int .i64 (cntR l s)]) ∧ Below w.heap.size w w' := by
  have N0 := below_new w (.cells #[.int .i64 0, .int .i64 0] 30)
  have KF := implTree_any a c l _ (ha.below N0) hl
  have RB := Hid.mk' (rowp2 w 30 (.int .i64 0) (.int .i64 0))
  have HN := Hid.mk' N0
  have HA := Hid.mk' (ha.below N0)
  clear ha N0
  generalize hW : w.alloc (.cells #[.int .i64 0, .int .i64 0] 30) = W at *
  by_cases h0 : treeF l = 0
  · have E : Hid (cntR l s = (cntU l s l.length : Int)) := Hid.mk' (by unfold cntR; rw [if_pos h0])
    have HE := Hid.mk' h0
    rw [h0] at KF
    have KF := Hid.mk' KF
    clear h0
    go_enter Try.func11, Try.ntmps11
    go_wp2_with fail
    clear hW
    refine KF.out.mono ?_
    rintro e w1 ⟨rfl, hb⟩
    have HR := Hid.mk' (rowB RB.out hb)
    have HB := Hid.mk' (HN.out.trans (hb.mono HN.out.size))
    have HC := Hid.mk' (HA.out.below hb)
    clear hb KF
    go_wp2_with fail
    go_loopw [6, 17] (fun v i wr => ∃ k : Nat, k ≤ l.length ∧ i = .int .i64 k ∧ v = .int .i64 (cntU l s k : Int) ∧ Below w1.heap.size w1 wr) (fun _ i _ => l.length - (intOf i).toNat)
    case atStart => exact ⟨0, Nat.zero_le _, rfl, rfl, Below.refl _ _⟩
    case round =>
      obtain ⟨k, hk, rfl, rfl, hbl⟩ := hrel
      have hc1 := cntU_le l s k
      have HBL := Hid.mk' hbl
      by_cases hlt : k < l.length
      · have ci : (k : Int) < (l.length : Int) := by omega
        rcases HC.out.below hbl with ha | ⟨b, o, rfl, hbs, hc⟩
        · exact absurd hlt (by rw [ha]; exact Nat.not_lt_zero _)
        obtain ⟨q0, q1, ⟨p2', d2, q2, _, _⟩, ⟨p, d, q3, q4⟩⟩ := hc k hlt
        have V1 := below_new wr (.cells #[.int .i64 (ndK l k).up, .string (ndK l k).tg, .slice p2' (ndK l k).at_.length d2, .slice p (ndK l k).tx.length d] 42)
        have RN := Hid.mk' (row4 wr 42 (.int .i64 (ndK l k).up) (.string (ndK l k).tg) (.slice p2' (ndK l k).at_.length d2) (.slice p (ndK l k).tx.length d))
        have HBL := Hid.mk' (HBL.out.trans (V1.mono HBL.out.size))
        clear V1 hc hbl q4
        generalize hWn : wr.alloc (.cells #[.int .i64 (ndK l k).up, .string (ndK l k).tg, .slice p2' (ndK l k).at_.length d2, .slice p (ndK l k).tx.length d] 42) = Wn at *
        obtain ⟨r0, r1, r2, r3_, r4_⟩ := cells4 RN.out
        have st : Hid (cntU l s (k + 1) = cntU l s k + (if hitB (ndK l k) s = true then 1 else 0)) := Hid.mk' rfl
        cases h1 : ((ndK l k).tg.toList == [])
        · cases h2 : ((ndK l k).tg.toList == s.toList)
          · have e1 : Hid (cntU l s (k + 1) = cntU l s k) := Hid.mk' (by rw [st.out]; simp [hitB, h2])
            go_wp2
            go_roundw
            case rel => exact ⟨k + 1, by omega, by go_num, by rw [e1.out], HBL.out⟩
            case measure => simp [intOf]; omega
          · have e1 : Hid (cntU l s (k + 1) = cntU l s k + 1) := Hid.mk' (by rw [st.out]; simp [hitB, h1, h2])
            go_wp2
            go_roundw
            case rel => exact ⟨k + 1, by omega, by go_num, by rw [e1.out]; go_num, HBL.out⟩
            case measure => simp [intOf]; omega
        · have e1 : Hid (cntU l s (k + 1) = cntU l s k) := Hid.mk' (by rw [st.out]; simp [hitB, h1])
          go_wp2
          go_roundw
          case rel => exact ⟨k + 1, by omega, by go_num, by rw [e1.out], HBL.out⟩
          case measure => simp [intOf]; omega
      · have ci : ¬ (k : Int) < (l.length : Int) := by omega
        have e : k = l.length := by omega
        subst e
        have R3 := rowB HR.out hbl
        obtain ⟨b0, b1, b2⟩ := cells2 R3
        have f0 := R3.frozen 0
        have f1 := R3.frozen 1
        have HB := Hid.mk' (HB.out.trans (hbl.mono HB.out.size))
        clear R3 hbl
        go_wp2
        refine bodyPost_ret (v := .agg #[.int .i64 0, .int .i64 (cntU l s l.length : Int)]) (by simp [results, Try.results11, go_sem, *]) rfl ?_
        exact ⟨by rw [HE.out, E.out], (HB.out.setCell (p := ⟨w.heap.size, 0, none⟩) (Nat.le_refl _) _).setCell (p := ⟨w.heap.size, 1, none⟩) (Nat.le_refl _) _⟩
  · have E : Hid (cntR l s = 0) := Hid.mk' (by unfold cntR; rw [if_neg h0])
    have KF := Hid.mk' KF
    go_enter Try.func11, Try.ntmps11
    go_wp2_with fail
    clear hW
    refine KF.out.mono ?_
    rintro e w1 ⟨rfl, hb⟩
    have R1 := rowB RB.out hb
    have HB := Hid.mk' (HN.out.trans (hb.mono HN.out.size))
    obtain ⟨b0, b1, b2⟩ := cells2 R1
    have f0 := R1.frozen 0
    have f1 := R1.frozen 1
    clear hb KF R1
    go_wp2
    refine bodyPost_ret (v := .agg #[.int .i64 (treeF l), .int .i64 0]) (by simp [results, Try.results11, go_sem, *]) rfl ?_
    exact ⟨by rw [E.out], (HB.out.setCell (p := ⟨w.heap.size, 0, none⟩) (Nat.le_refl _) _).setCell (p := ⟨w.heap.size, 1, none⟩) (Nat.le_refl _) _⟩

set_option maxRecDepth 100000 in
set_option maxHeartbeats 6000000 in
theorem lawCount_any (a : Option Addr) (c : Nat) (l : List ND) (s : ByteArray) (w : World) (ha : NsAt w a l) (hw : WideN l) (hl : (l.length : Int) ≤ 9223372036854775807) (hs : (s.size : Int) ≤ 9223372036854775807) :
    Calls Try.prog 4 #[.slice a l.length c, .string s] w fun e w' => e = .returned (.bool true) ∧ Below w.heap.size w w' := by
  by_cases g0 : (s.size : Int) > 1048576
  · go_enter Try.func4, Try.ntmps4
    go_wp2
    go_ret
    exact ⟨rfl, Below.refl _ _⟩
  have KS := szNodeS_any a c l 1048576 w ha hw (by omega) (by omega) hl
  have HA := Hid.mk' ha
  clear ha hw
  by_cases g1 : 1048576 < (l.length : Int) + nssz l
  · rw [if_pos g1] at KS
    have KS := Hid.mk' KS
    go_enter Try.func4, Try.ntmps4
    go_wp2_with fail
    refine KS.out.mono ?_
    rintro e w1 ⟨rfl, hb1⟩
    have HB := Hid.mk' hb1
    clear hb1 KS
    go_wp2
    go_ret
    exact ⟨rfl, HB.out⟩
  rw [if_neg g1] at KS
  have KS := Hid.mk' KS
  have zz : ¬ (1048576 - (l.length : Int) - nssz l < 0) := by omega
  have hl2 : (l.length : Int) + nssz l ≤ 1048576 := by omega
  go_enter Try.func4, Try.ntmps4
  go_wp2_with fail
  refine KS.out.mono ?_
  rintro e w2 ⟨rfl, hb2⟩
  have HB := Hid.mk' hb2
  clear hb2 KS g1
  go_wp2_with fail
  clear zz
  refine (toNodeS_any a c l w2 (HA.out.below HB.out) hl2).mono ?_
  rintro e w3 ⟨rfl, t3⟩
  have HB := Hid.mk' (HB.out.trans (t3.bl.mono HB.out.size))
  have T3 := Hid.mk' t3.at
  clear t3
  go_wp2_with fail
  refine (specCount_any _ _ l s w3 T3.out hl2).mono ?_
  rintro e w5 ⟨rfl, hb5⟩
  generalize hA : treeF l = A at *
  generalize hV : cntR l s = V at *
  have N5 := below_new w5 (.cells #[.int .i64 A, .int .i64 V] 30)
  have M5 := hb5.trans (N5.mono hb5.size)
  have HB := Hid.mk' (HB.out.trans (M5.mono HB.out.size))
  have RW := Hid.mk' (rowp2 w5 30 (.int .i64 A) (.int .i64 V))
  clear hb5 T3 N5 M5
  generalize hW5 : w5.alloc (.cells #[.int .i64 A, .int .i64 V] 30) = W5 at *
  go_wp2_with fail
  clear hW5
  refine (toNodeS_any a c l W5 (HA.out.below HB.out) hl2).mono ?_
  rintro e w6 ⟨rfl, t6⟩
  have HB := Hid.mk' (HB.out.trans (t6.bl.mono HB.out.size))
  have RW := Hid.mk' (rowB RW.out t6.bl)
  have T6 := Hid.mk' t6.at
  clear t6
  go_wp2_with fail
  refine (implCount_any _ _ l s w6 T6.out hl2).mono ?_
  rintro e w8 ⟨rfl, hb8⟩
  rw [hA, hV]
  have N8 := below_new w8 (.cells #[.int .i64 A, .int .i64 V] 30)
  have M8 := hb8.trans (N8.mono hb8.size)
  have HB := Hid.mk' (HB.out.trans (M8.mono HB.out.size))
  have RW := Hid.mk' (rowB RW.out M8)
  have RG := Hid.mk' (rowp2 w8 30 (.int .i64 A) (.int .i64 V))
  have T6 := Hid.mk' (T6.out.below M8)
  clear hb8 N8 M8
  generalize hW8 : w8.alloc (.cells #[.int .i64 A, .int .i64 V] 30) = W8 at *
  obtain ⟨g0, g1, g2⟩ := cells2 RG.out
  obtain ⟨k0, k1, k2⟩ := cells2 RW.out
  go_wp2_with fail
  clear hW8
  refine (eqIntResult_any A V W8).mono ?_
  rintro e w1 ⟨rfl, hb1⟩
  have HB := Hid.mk' (HB.out.trans (hb1.mono HB.out.size))
  have T6 := Hid.mk' (T6.out.below hb1)
  clear hb1 g0 g1 g2 k0 k1 k2
  go_wp2_with fail
  refine (toNodeS_any a c l w1 (HA.out.below HB.out) hl2).mono ?_
  rintro e w9 ⟨rfl, t9⟩
  have HB := Hid.mk' (HB.out.trans (t9.bl.mono HB.out.size))
  have T6 := Hid.mk' (T6.out.below t9.bl)
  have T9 := Hid.mk' t9.at
  clear t9
  go_wp2_with fail
  refine (eqNodeS_any _ _ _ _ l w9 T6.out T9.out hl2).mono ?_
  rintro e w10 ⟨rfl, hb10⟩
  have HB := Hid.mk' (HB.out.trans (hb10.mono HB.out.size))
  clear hb10 T6 T9
  go_wp2
  go_ret
  exact ⟨rfl, HB.out⟩

end Go.Proofs.Ytngdcpmolbpoeaa
