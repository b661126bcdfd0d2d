/- The law on TextIn. -/
import Derived.Test.YtphilngnkigcfabHa
namespace Go.Proofs.Ytphilngnkigcfab
open Go.RowKit
set_option linter.unusedVariables false
set_option linter.unusedSimpArgs false

theorem Turned.after {v : Value} {w w1 w2 : World} (h : Below w.heap.size w w1) (t : Turned v w1 w2) : Turned v w w2 :=
  ⟨t.os.trans h.os, t.tape.trans h.tape, t.output.trans h.output, Nat.le_trans h.size t.size, fun k hk hne => (t.block k (Nat.lt_of_lt_of_le hk h.size) hne).trans (h.block k hk)⟩

theorem Turned.below {v : Value} {w w1 : World} {B : Nat} (t : Turned v w w1) (hv : ∀ k, v.ownBlock = some k → B ≤ k) (hB : B ≤ w.heap.size) : Below B w w1 :=
  ⟨t.os, t.tape, t.output, t.size, fun k hk => t.block k (by omega) (fun e => by have := hv k e; omega)⟩

set_option maxRecDepth 100000 in
set_option maxHeartbeats 8000000 in
theorem lawTextIn_any (a : Option Addr) (c : Nat) (l : List ND) (w : World) (ha : NsAt w a l) (hw : WideN l) (hl : (l.length : Int) ≤ 9223372036854775807) :
    Calls Try.prog 3 #[.slice a l.length c] w fun e w' => e = .returned (.bool true) ∧ Below w.heap.size w w' := by
  have KS := szNodeS_any a c l 1048576 w ha hw (by omega) (by omega) hl
  have HA := Hid.mk' ha
  clear ha hw
  by_cases g1 : 1048576 < (l.length : Int) + nssz l
  · rw [if_pos g1] at KS
    have KS := Hid.mk' KS
    go_enter Try.func3, Try.ntmps3
    go_wp2_with fail
    refine KS.out.mono ?_
    rintro e w1 ⟨rfl, hb1⟩
    have HB := Hid.mk' hb1
    clear hb1 KS
    go_wp2
    go_ret
    exact ⟨rfl, HB.out⟩
  rw [if_neg g1] at KS
  have KS := Hid.mk' KS
  have zz : ¬ (1048576 - (l.length : Int) - nssz l < 0) := by omega
  have hl2 : (l.length : Int) + nssz l ≤ 1048576 := by omega
  have hks := txL_small l
  go_enter Try.func3, Try.ntmps3
  go_wp2_with fail
  refine KS.out.mono ?_
  rintro e w2 ⟨rfl, hb2⟩
  have HB := Hid.mk' hb2
  clear hb2 KS g1
  go_wp2_with fail
  clear zz
  refine (toNodeS_any a c l w2 (HA.out.below HB.out) hl2).mono ?_
  rintro e w3 ⟨rfl, t3⟩
  have HB := Hid.mk' (HB.out.trans (t3.bl.mono HB.out.size))
  have T3 := Hid.mk' t3.at
  clear t3
  go_wp2_with fail
  refine (specText_n _ _ l w3 T3.out hl2).mono ?_
  rintro e w5 ⟨v5, rfl, o5, _, hb5⟩
  have KI0 : Hid (∀ (a' : Option Addr) (c' : Nat) (w' : World), NsAt w' a' l → Calls Try.prog 7 #[.slice a' l.length c'] w' fun e w'' => TxP l w' e w'') := fun a' c' w' hN => implText_n a' c' l w' hN hl2
  have KP0 : Hid (∀ (w' : World) (e : Ending) (w'' : World), TxP l w' e w'' → ∃ v, e = .returned (.agg #[.int .i64 (txC l), v]) ∧ OB w'' v (txL l) ∧ (∀ k, v.ownBlock = some k → w'.heap.size ≤ k) ∧ Below w'.heap.size w' w'') := fun _ _ _ h => h
  generalize txC l = C at *
  generalize txL l = L at *
  obtain ⟨a5, c5, rfl, _⟩ := o5.len
  have N5 := below_new w5 (.cells #[.int .i64 C, .slice a5 L.length c5] 26)
  have M5 := hb5.trans (N5.mono hb5.size)
  have HB := Hid.mk' (HB.out.trans (M5.mono HB.out.size))
  have RW := Hid.mk' (rowp2 w5 26 (.int .i64 C) (.slice a5 L.length c5))
  have O5 := Hid.mk' (o5.below N5)
  have L5 := Hid.mk' o5.lt
  have Z5 : Hid ((w5.alloc (.cells #[.int .i64 C, .slice a5 L.length c5] 26)).heap.size = w5.heap.size + 1) := Hid.mk' (by simp)
  clear hb5 T3 N5 M5 o5
  generalize hW5 : w5.alloc (.cells #[.int .i64 C, .slice a5 L.length c5] 26) = W5 at *
  go_wp2_with fail
  clear hW5
  refine (toNodeS_any a c l W5 (HA.out.below HB.out) hl2).mono ?_
  rintro e w6 ⟨rfl, t6⟩
  have HBw5 := Hid.mk' HB.out.size
  have HB := Hid.mk' (HB.out.trans (t6.bl.mono HB.out.size))
  have RW := Hid.mk' (rowB RW.out t6.bl)
  have O5 := Hid.mk' (O5.out.below t6.bl)
  have T6 := Hid.mk' t6.at
  obtain ⟨hi, hi1, hi2, hnm⟩ := t6.nm
  have NM6 := Hid.mk' hnm
  clear t6 hnm
  go_wp2_with fail
  refine (KI0.out (some ⟨W5.heap.size, 0, none⟩) l.length w6 T6.out).mono ?_
  intro e w8 hkp
  obtain ⟨v8, rfl, o8, lo8, hb8⟩ := KP0.out _ _ _ hkp
  clear hkp
  obtain ⟨a8, c8, rfl, _⟩ := o8.len
  have N8 := below_new w8 (.cells #[.int .i64 C, .slice a8 L.length c8] 26)
  have M8 := hb8.trans (N8.mono hb8.size)
  have HB := Hid.mk' (HB.out.trans (M8.mono HB.out.size))
  have RW := Hid.mk' (rowB RW.out M8)
  have RG := Hid.mk' (rowp2 w8 26 (.int .i64 C) (.slice a8 L.length c8))
  have O5 := Hid.mk' (O5.out.below M8)
  have O8 := Hid.mk' (o8.below N8)
  have T6 := Hid.mk' (T6.out.below M8)
  have NM6 := Hid.mk' (NM6.out.keep M8.size (fun q _ _ hq => M8.block q hq))
  have LO8 := Hid.mk' lo8
  have L8 := Hid.mk' o8.lt
  have S8 : w6.heap.size ≤ w8.heap.size := hb8.size
  clear hb8 N8 M8 o8 lo8
  generalize hW8 : w8.alloc (.cells #[.int .i64 C, .slice a8 L.length c8] 26) = W8 at *
  obtain ⟨g0, g1, g2⟩ := cells2 RG.out
  obtain ⟨k0, k1, k2⟩ := cells2 RW.out
  go_wp2_with fail
  clear hW8
  refine (eqBR_any C _ _ L W8 O8.out.len O5.out.len (by omega)).mono ?_
  rintro e w9 ⟨rfl, hb⟩
  have HB := Hid.mk' (HB.out.trans (hb.mono HB.out.size))
  have RW := Hid.mk' (rowB RW.out hb)
  have RG := Hid.mk' (rowB RG.out hb)
  have O5 := Hid.mk' (O5.out.below hb)
  have O8 := Hid.mk' (O8.out.below hb)
  have T6 := Hid.mk' (T6.out.below hb)
  have NM6 := Hid.mk' (NM6.out.keep hb.size (fun q _ _ hq => hb.block q hq))
  clear hb g0 g1 g2 k0 k1 k2
  go_wp2_with fail
  refine (toNodeS_any a c l w9 (HA.out.below HB.out) hl2).mono ?_
  rintro e w10 ⟨rfl, t9⟩
  have hb := t9.bl
  have HB := Hid.mk' (HB.out.trans (hb.mono HB.out.size))
  have RW := Hid.mk' (rowB RW.out hb)
  have RG := Hid.mk' (rowB RG.out hb)
  have O5 := Hid.mk' (O5.out.below hb)
  have O8 := Hid.mk' (O8.out.below hb)
  have T6 := Hid.mk' (T6.out.below hb)
  have NM6 := Hid.mk' (NM6.out.keep hb.size (fun q _ _ hq => hb.block q hq))
  have T9 := Hid.mk' t9.at
  clear t9 hb
  go_wp2_with fail
  refine (eqNodeS_any _ _ _ _ l w10 T6.out T9.out hl2).mono ?_
  rintro e w11 ⟨rfl, hb⟩
  have HB := Hid.mk' (HB.out.trans (hb.mono HB.out.size))
  have RW := Hid.mk' (rowB RW.out hb)
  have RG := Hid.mk' (rowB RG.out hb)
  have O5 := Hid.mk' (O5.out.below hb)
  have O8 := Hid.mk' (O8.out.below hb)
  have NM6 := Hid.mk' (NM6.out.keep hb.size (fun q _ _ hq => hb.block q hq))
  clear hb T6 T9
  go_wp2_with fail
  refine (markNodeS_any W5.heap.size hi l.length l w11 NM6.out hl2).mono ?_
  rintro e w12 ⟨⟨z, rfl⟩, hk⟩
  have HB := Hid.mk' (HB.out.trans (hk.below (B := w.heap.size) HBw5.out HB.out.size))
  have RW := Hid.mk' (rowK RW.out hk (.inl (by have := Z5.out; omega)))
  have RG := Hid.mk' (rowK RG.out hk (.inr (by omega)))
  have O5 := Hid.mk' (O5.out.keep (fun k e hl => hk.block k hl (by have := L5.out k e; have := Z5.out; omega)))
  have O8 := Hid.mk' (O8.out.keep (fun k e hl => hk.block k hl (by have := LO8.out k e; omega)))
  clear hk NM6
  obtain ⟨g0, g1, g2⟩ := cells2 RG.out
  obtain ⟨k0, k1, k2⟩ := cells2 RW.out
  have zn : ¬ ((z : Int) < 0) := by omega
  go_wp2_with fail
  refine (eqBR_any C _ _ L w12 O8.out.len O5.out.len (by omega)).mono ?_
  rintro e w13 ⟨rfl, hb⟩
  have HB := Hid.mk' (HB.out.trans (hb.mono HB.out.size))
  have RW := Hid.mk' (rowB RW.out hb)
  have RG := Hid.mk' (rowB RG.out hb)
  have O5 := Hid.mk' (O5.out.below hb)
  have O8 := Hid.mk' (O8.out.below hb)
  clear hb g0 g1 g2 k0 k1 k2 zn
  obtain ⟨g0, g1, g2⟩ := cells2 RG.out
  obtain ⟨k0, k1, k2⟩ := cells2 RW.out
  go_wp2_with fail
  refine (markBR_any C _ L w13 O8.out (by omega)).mono ?_
  rintro e w14 ⟨rfl, o14, wq, bq, tq⟩
  have tu := tq.after bq
  clear bq tq
  have HB := Hid.mk' (HB.out.trans (tu.below (B := w.heap.size) (fun k e => by have := LO8.out k e; have := HBw5.out; omega) HB.out.size))
  have RW := Hid.mk' (RW.out.of_block (tu.block _ RW.out.lt (fun e => by have := LO8.out _ e; have := Z5.out; omega)))
  have RG := Hid.mk' (RG.out.of_block (tu.block _ RG.out.lt (fun e => by have := L8.out _ e; omega)))
  have O5 := Hid.mk' (O5.out.keep (fun k e hl => tu.block k hl (fun e2 => by have := L5.out k e; have := LO8.out k e2; have := Z5.out; omega)))
  have O8 := Hid.mk' o14
  clear tu o14 g0 g1 g2 k0 k1 k2
  obtain ⟨g0, g1, g2⟩ := cells2 RG.out
  obtain ⟨k0, k1, k2⟩ := cells2 RW.out
  have zz : ¬ (1 + (L.length : Int) < 0) := by omega
  go_wp2_with fail
  refine (heldBR_any C _ L.length w14 (by have h := O8.out.len; rwa [mb_len] at h) (by omega)).mono ?_
  rintro e w15 ⟨rfl, hb⟩
  have HB := Hid.mk' (HB.out.trans (hb.mono HB.out.size))
  have RW := Hid.mk' (rowB RW.out hb)
  have RG := Hid.mk' (rowB RG.out hb)
  have O5 := Hid.mk' (O5.out.below hb)
  have O8 := Hid.mk' (O8.out.below hb)
  clear hb g0 g1 g2 k0 k1 k2
  go_wp2_with fail
  refine (toNodeS_any a c l w15 (HA.out.below HB.out) hl2).mono ?_
  rintro e w16 ⟨rfl, t9⟩
  have hb := t9.bl
  have HB := Hid.mk' (HB.out.trans (hb.mono HB.out.size))
  have RW := Hid.mk' (rowB RW.out hb)
  have RG := Hid.mk' (rowB RG.out hb)
  have O5 := Hid.mk' (O5.out.below hb)
  have O8 := Hid.mk' (O8.out.below hb)
  have T9 := Hid.mk' t9.at
  clear t9 hb
  go_wp2_with fail
  refine (KI0.out (some ⟨w15.heap.size, 0, none⟩) l.length w16 T9.out).mono ?_
  intro e w17 hkp
  obtain ⟨v17, rfl, o17, lo17, hb17⟩ := KP0.out _ _ _ hkp
  clear hkp
  obtain ⟨a17, c17, rfl, _⟩ := o17.len
  have N17 := below_new w17 (.cells #[.int .i64 C, .slice a17 L.length c17] 26)
  have hb := hb17.trans (N17.mono hb17.size)
  have HB := Hid.mk' (HB.out.trans (hb.mono HB.out.size))
  have RW := Hid.mk' (rowB RW.out hb)
  have RG := Hid.mk' (rowB RG.out hb)
  have O5 := Hid.mk' (O5.out.below hb)
  have O8 := Hid.mk' (O8.out.below hb)
  have RH := Hid.mk' (rowp2 w17 26 (.int .i64 C) (.slice a17 L.length c17))
  have O17 := Hid.mk' (o17.below N17)
  clear hb hb17 N17 o17 lo17 T9
  generalize hW17 : w17.alloc (.cells #[.int .i64 C, .slice a17 L.length c17] 26) = W17 at *
  obtain ⟨h0, h1, h2⟩ := cells2 RH.out
  obtain ⟨g0, g1, g2⟩ := cells2 RG.out
  obtain ⟨k0, k1, k2⟩ := cells2 RW.out
  go_wp2_with fail
  clear hW17
  refine (eqBR_any C _ _ L W17 O17.out.len O5.out.len (by omega)).mono ?_
  rintro e w18 ⟨rfl, hb⟩
  have HB := Hid.mk' (HB.out.trans (hb.mono HB.out.size))
  have RW := Hid.mk' (rowB RW.out hb)
  have RG := Hid.mk' (rowB RG.out hb)
  have O5 := Hid.mk' (O5.out.below hb)
  have O8 := Hid.mk' (O8.out.below hb)
  clear hb g0 g1 g2 k0 k1 k2 h0 h1 h2
  obtain ⟨g0, g1, g2⟩ := cells2 RG.out
  obtain ⟨k0, k1, k2⟩ := cells2 RW.out
  go_wp2_with fail
  refine (heldBR_any C _ L.length w18 (by have h := O8.out.len; rwa [mb_len] at h) (by omega)).mono ?_
  rintro e w19 ⟨rfl, hb⟩
  have HB := Hid.mk' (HB.out.trans (hb.mono HB.out.size))
  clear hb
  go_wp2
  go_ret
  exact ⟨rfl, HB.out⟩

end Go.Proofs.Ytphilngnkigcfab
