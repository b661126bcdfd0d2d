/- The law on ParseText. -/
import Derived.Test.YthcajggbcanmdaaGreatDoorU18
import Derived.Test.YthcajggbcanmdaaGreatDoorChecked
import Derived.Test.YthcajggbcanmdaaGreatDoorU1
import Derived.ProofKit
import Derived.OpenShut
import Derived.ShutString
import Derived.ChangeOld
import Derived.Lib.SmallJoins
import Derived.Deep.MidRow
import Derived.Test.YthcajggbcanmdaaGreatDoorRows
import Derived.JoinedOf
set_option linter.unusedVariables false
set_option linter.unusedSimpArgs false
namespace Go.Proofs.YthcajggbcanmdaaGreatDoor
open Go.RowKit

theorem pt_le (d : List Int) : ((ptN d).length : Int) + nssz (ptN d) ≤ 2000000 := by
  unfold ptN
  by_cases h : 240 < d.length
  · rw [if_pos h]; simp [nssz]
  · rw [if_neg h]; exact bt_le _ (lex_room d h)

set_option maxRecDepth 100000 in
set_option maxHeartbeats 12000000 in
theorem lawPX_any (q : Option Addr) (c' : Nat) (d : List Int) (tp : TypeId) (pv : Value) (w : World) (hE : Env w.heap.size tp pv w) (hd : BAt w q d) (hu : Byt d) (hl : (d.length : Int) ≤ 9223372036854775807) :
    Calls Tryz.prog 5 #[.slice q d.length c'] w fun e w' => e = .returned (.bool true) ∧ Below w.heap.size w w' := by
  by_cases g2 : 1048576 < (d.length : Int)
  · go_enter Tryz.func5, Tryz.ntmps5
    go_wp2
    go_ret
    exact ⟨rfl, Below.refl _ _⟩
  have ll : (d.length : Int) ≤ 1048576 := by omega
  have nR0 := pt_le d
  have KS0 : Hid (∀ (q' : Option Addr) (c2 : Nat) (w' : World), BAt w' q' d → Calls Tryz.prog 19 #[.slice q' d.length c2] w' fun e w'' => TreeQ (ptC d) (ptN d) w' e w'') := Hid.mk' (fun q' c2 w' h2 => specPX_any d q' c2 w' h2 hu hl)
  have KI0 : Hid (∀ (q' : Option Addr) (c2 : Nat) (w' : World), Env w'.heap.size tp pv w' → BAt w' q' d → Calls Tryz.prog 20 #[.slice q' d.length c2] w' fun e w'' => TreeQ (ptC d) (ptN d) w' e w'') := Hid.mk' (fun q' c2 w' hE h2 => implPX_any tp pv d q' c2 w' hE h2 hu hl)
  have HE := Hid.mk' hE
  have HH := Hid.mk' hd
  generalize ptC d = C at *
  generalize ptN d = R at *
  clear hE hd hu
  go_enter Tryz.func5, Tryz.ntmps5
  go_wp2_with fail
  refine (toByteS_any q c' d w HH.out ll).mono ?_
  rintro e w2 ⟨b2, rfl, l2, r2, hb2⟩
  have B2 := Hid.mk' hb2
  have T2 := Hid.mk' (BAt.of_row r2)
  clear r2 hb2
  go_wp2_with fail
  refine (KS0.out _ _ _ T2.out).mono ?_
  rintro e w5 ⟨τ5, vn5, va5, vt5, us5, rfl, q5, cap5, hb5⟩
  obtain ⟨a5, c5, rfl, s5⟩ := q5.at
  have N5 := below_new w5 (.cells #[.int .i64 C, .slice a5 R.length c5] 43)
  have BX := (B2.out.trans (hb5.mono B2.out.size)).trans (N5.mono (Nat.le_trans B2.out.size hb5.size))
  have HB := Hid.mk' BX
  have RW := Hid.mk' (rowQ2 w5 43 (.int .i64 C) (.slice a5 R.length c5))
  have SW := Hid.mk' (s5.below N5)
  clear BX N5 q5 cap5 hb5 s5 T2 B2 KS0
  generalize hW5 : w5.alloc (.cells #[.int .i64 C, .slice a5 R.length c5] 43) = W6 at *
  go_wp2_with fail
  clear hW5
  refine (toByteS_any q c' d W6 (HH.out.below HB.out) ll).mono ?_
  rintro e w7 ⟨b7, rfl, l7, r7, hb7⟩
  have B5 := Hid.mk' hb7
  have L7 : Hid (W6.heap.size ≤ w7.heap.size) := Hid.mk' hb7.size
  have X1 := Hid.mk' r7
  have LB := Hid.mk' (show W6.heap.size ≤ b7 ∧ b7 + 1 ≤ w7.heap.size from ⟨l7, r7.lt⟩)
  clear hb7 r7 l7
  go_wp2_with fail
  refine (KI0.out _ _ w7 ((HE.out.keep (HB.out.trans (B5.out.mono HB.out.size))).up (Nat.le_trans HB.out.size L7.out) (Nat.le_refl _)) (.of_row X1.out)).mono ?_
  rintro e w8 ⟨τ8, vn8, va8, vt8, us8, rfl, q8, cap8, hb8⟩
  obtain ⟨a8, c8, rfl, s8⟩ := q8.at
  have N8 := below_new w8 (.cells #[.int .i64 C, .slice a8 R.length c8] 43)
  have hb := hb8.trans (N8.mono hb8.size)
  have B5 := Hid.mk' (B5.out.trans (hb.mono B5.out.size))
  have X1 := Hid.mk' (rowB X1.out hb)
  have G : Hid (GN w7.heap.size w8.heap.size τ8 (.slice a8 R.length c8) va8 vt8 us8 C R _) := Hid.mk' ⟨rowQ2 w8 43 (.int .i64 C) (.slice a8 R.length c8), q8.below N8, cap8, hb8.size⟩
  clear q8 cap8 hb8 s8 N8 hb
  generalize hW8 : w8.alloc (.cells #[.int .i64 C, .slice a8 R.length c8] 43) = W8 at *
  obtain ⟨e0, e1, e2⟩ := cellsQ2 G.out.box
  obtain ⟨k0, k1, k2⟩ := cellsQ2 (rowB RW.out B5.out)
  go_wp2_with fail
  clear hW8
  refine (eqNRes_is C R a8 a5 c8 c5 W8 (G.out.mk2 (R' := R) rfl) (SW.out.below B5.out) nR0).mono ?_
  rintro e w9 ⟨rfl, hb⟩
  have B5 := Hid.mk' (B5.out.trans (hb.mono B5.out.size))
  have X1 := Hid.mk' (rowB X1.out hb)
  have G := Hid.mk' (G.out.below hb)
  clear hb e0 e1 e2 k0 k1 k2
  go_wp2_with fail
  refine (toByteS_any q c' d w9 (HH.out.below (HB.out.trans (B5.out.mono HB.out.size))) ll).mono ?_
  rintro e wK ⟨bK, rfl, lK, rK, hb⟩
  have T9 := Hid.mk' rK
  have B5 := Hid.mk' (B5.out.trans (hb.mono B5.out.size))
  have X1 := Hid.mk' (rowB X1.out hb)
  have G := Hid.mk' (G.out.below hb)
  clear hb rK lK
  go_wp2_with fail
  refine (eqByteS_any _ _ _ _ d wK (.of_row X1.out) (.of_row T9.out) ll).mono ?_
  rintro e wB ⟨rfl, hb⟩
  have B5 := Hid.mk' (B5.out.trans (hb.mono B5.out.size))
  have X1 := Hid.mk' (rowB X1.out hb)
  have G := Hid.mk' (G.out.below hb)
  clear hb T9
  go_wp2_with fail
  refine (markByteS_row b7 d.length d.length d.length 1 (bv d) wB X1.out (Nat.le_refl _) (by omega)).mono ?_
  rintro e wD ⟨rfl, _, hk⟩
  have B5 := Hid.mk' (B5.out.trans (hk.below LB.out.1 B5.out.size))
  have G := Hid.mk' (G.out.kept hk LB.out.2)
  clear hk X1
  obtain ⟨e0, e1, e2⟩ := cellsQ2 G.out.box
  obtain ⟨k0, k1, k2⟩ := cellsQ2 (rowB RW.out B5.out)
  have kz : ¬ ((((1 : Nat) : Int) + (d.length : Int)) < 0) := by omega
  have kz' : ¬ ((1 + (d.length : Int)) < 0) := by omega
  go_wp2_with fail
  refine (eqNRes_is C R a8 a5 c8 c5 wD (G.out.mk2 (R' := R) rfl) (SW.out.below B5.out) nR0).mono ?_
  rintro e wE ⟨rfl, hb⟩
  have B5 := Hid.mk' (B5.out.trans (hb.mono B5.out.size))
  have G := Hid.mk' (G.out.below hb)
  clear hb e0 e1 e2 k0 k1 k2 kz kz'
  obtain ⟨e0, e1, e2⟩ := cellsQ2 G.out.box
  go_wp2_with fail
  refine (markNRes_is C τ8 w7.heap.size (.slice a8 R.length c8) R va8 vt8 us8 wE G.out.sq (by have := G.out.box.lt; have := G.out.lq; omega) nR0).mono ?_
  rintro e wF ⟨rfl, q15, kp⟩
  have hk : KeptIn w7.heap.size w8.heap.size wE wF := kp.keptIn (fun k e => G.out.cap k (by omega))
  have GF : Hid (GN w7.heap.size w8.heap.size τ8 (.slice a8 R.length c8) va8 vt8 us8 C (mkN 1 R) wF) := Hid.mk' ⟨rowK G.out.box hk (.inr (Nat.le_refl _)), q15, G.out.cap, G.out.lq⟩
  have B5 := Hid.mk' (B5.out.trans (hk.below L7.out B5.out.size))
  have zm : ¬ (((1 + cnN R : Nat) : Int) < 0) := by omega
  clear q15 kp hk G e0 e1 e2
  obtain ⟨e0, e1, e2⟩ := cellsQ2 GF.out.box
  go_wp2_with fail
  refine (heldNRes_is C R a8 c8 wF (GF.out.mk2 (R' := R) (mkN_len 1 R).symm) nR0).mono ?_
  rintro e wG ⟨rfl, hb⟩
  have B5 := Hid.mk' (B5.out.trans (hb.mono B5.out.size))
  have GF := Hid.mk' (GF.out.below hb)
  clear hb e0 e1 e2
  go_wp2_with fail
  refine (toByteS_any q c' d wG (HH.out.below (HB.out.trans (B5.out.mono HB.out.size))) ll).mono ?_
  rintro e v4 ⟨b4, rfl, l4, r4, hb4⟩
  have HB4 := Hid.mk' hb4
  have T4t := Hid.mk' (BAt.of_row r4)
  have E4 := Hid.mk' ((HE.out.keep ((HB.out.trans (B5.out.mono HB.out.size)).trans (hb4.mono (Nat.le_trans HB.out.size B5.out.size)))).up (Nat.le_trans (Nat.le_trans HB.out.size B5.out.size) hb4.size) (Nat.le_refl _))
  clear hb4 r4 l4
  go_wp2_with fail
  refine (KI0.out _ _ _ E4.out T4t.out).mono ?_
  rintro e wH ⟨τH, vnH, vaH, vtH, usH, rfl, qH, capH, hbH⟩
  obtain ⟨aH, cH, rfl, sH⟩ := qH.at
  have NH := below_new wH (.cells #[.int .i64 C, .slice aH R.length cH] 43)
  have hb35 : Below wG.heap.size wG wH := HB4.out.trans (hbH.mono HB4.out.size)
  have BX := hb35.trans (NH.mono hb35.size)
  have B5 := Hid.mk' (B5.out.trans (BX.mono B5.out.size))
  have GF := Hid.mk' (GF.out.below BX)
  have RHh := Hid.mk' (rowQ2 wH 43 (.int .i64 C) (.slice aH R.length cH))
  have SH := Hid.mk' (sH.below NH)
  clear BX hb35 NH qH capH hbH sH T4t HB4 KI0
  generalize hWH : wH.alloc (.cells #[.int .i64 C, .slice aH R.length cH] 43) = WH at *
  obtain ⟨e0, e1, e2⟩ := cellsQ2 RHh.out
  obtain ⟨k0, k1, k2⟩ := cellsQ2 (rowB RW.out B5.out)
  go_wp2_with fail
  clear hWH
  refine (eqNRes_is C R aH a5 cH c5 WH SH.out (SW.out.below B5.out) nR0).mono ?_
  rintro e wI ⟨rfl, hb⟩
  have B5 := Hid.mk' (B5.out.trans (hb.mono B5.out.size))
  have GF := Hid.mk' (GF.out.below hb)
  clear hb e0 e1 e2 k0 k1 k2
  obtain ⟨e0, e1, e2⟩ := cellsQ2 GF.out.box
  go_wp2_with fail
  refine (heldNRes_is C R a8 c8 wI (GF.out.mk2 (R' := R) (mkN_len 1 R).symm) nR0).mono ?_
  rintro e wJ ⟨rfl, hb⟩
  have B5 := Hid.mk' (B5.out.trans (hb.mono B5.out.size))
  clear hb e0 e1 e2 GF
  go_wp2
  go_ret
  exact ⟨rfl, HB.out.trans (B5.out.mono HB.out.size)⟩

end Go.Proofs.YthcajggbcanmdaaGreatDoor

namespace Go.Proofs.YthcajggbcanmdaaGreatDoor
open Go.ChangeShapes Go.WideShapes Go.ChangeAt Go.RowKit
set_option maxRecDepth 100000

theorem cells5B : Tryz.prog.cellsOf 5 = 1 := by kernel_rfl

theorem cell_ltB {w : World} {a : Addr} {v : Value} (h : w.cell? a = some v) : a.block < w.heap.size := by
  unfold World.cell? at h
  by_cases hb : a.block < w.heap.size
  · exact hb
  · rw [Array.getElem?_eq_none (by omega)] at h
    simp at h

theorem plain_addrB {w : World} {a : Addr} {v : Value} (h : w.cell? a = some v) : ∃ b o, a = ⟨b, o, none⟩ := by
  obtain ⟨b, o, s⟩ := a
  have hs := World.cell?_spot h
  simp at hs
  subst hs
  exact ⟨b, o, rfl⟩

theorem open_bytesB {H : Type} {enc : TypeId × Value → H} {W : World} {spare : Nat → Bool} {held : Bool} {fuel : Nat} {v : Value} {x : DataW H × List MemPlace} (h : DataW.trod enc Tryz.prog W 0 spare held fuel 22 [v] = some x) :
    ∃ a c l, v = .slice a l.length c ∧ BAt W a l ∧ (l.length : Int) ≤ 9223372036854775807 ∧ ∀ k, k < l.length → 0 ≤ l.getD k 0 ∧ l.getD k 0 ≤ 255 := by
  rcases open_ints Tryz.underlying22 Tryz.underlying5 cells5B h with ⟨hcs, _⟩ | ⟨a, len, cap, zs, hcs, _, hl, hm, hz, _, hcell, hwz⟩
  · simp at hcs
    subst hcs
    exact ⟨none, 0, [], rfl, .inl rfl, by simp, by simp⟩
  · simp at hcs
    subst hcs
    have hlz : len ≤ zs.length := by rw [hz]; split <;> omega
    have hlen : (zs.take len).length = len := by rw [List.length_take]; omega
    unfold maxLen at hm
    refine ⟨some a, cap, zs.take len, by rw [hlen], ?_, by rw [hlen]; omega, fun k hk => ?_⟩
    · by_cases h0 : len = 0
      · left; subst h0; simp
      · right
        have c0 := hcell 0 (by omega)
        have e0 : a.add 0 = a := by unfold Addr.add; split <;> simp_all
        rw [e0] at c0
        obtain ⟨b, o, rfl⟩ := plain_addrB c0
        refine ⟨b, o, rfl, cell_ltB c0, fun k hk => ?_⟩
        rw [hlen] at hk
        have ck := hcell k (by omega)
        rw [Addr.add_mid] at ck
        rw [ck]
        unfold bv
        congr 2
        simp [hk]
    · rw [hlen] at hk
      have e : (zs.take len).getD k 0 = zs[k]'(by omega) := by simp [hk, show k < zs.length from by omega]
      rw [e]
      exact bounds_u8 (hwz _ (List.getElem_mem _))

theorem open_bytesBV {H : Type} {enc : TypeId × Value → H} {W : World} {base : Nat} {spare : Nat → Bool} {held : Bool} {v : Value} {d : DataW H} {p : List MemPlace}
    (hv : Value.okWide Tryz.prog W .any base 22 v) (h : DataW.Trod enc Tryz.prog W 0 spare held 22 v d p) :
    ∃ a c l, v = .slice a l.length c ∧ BAt W a l ∧ (l.length : Int) ≤ 9223372036854775807 ∧ ∀ k, k < l.length → 0 ≤ l.getD k 0 ∧ l.getD k 0 ≤ 255 := by
  obtain ⟨a0, len, cap, rfl⟩ := okWide_slice Tryz.underlying22 hv
  obtain ⟨fuel, hf⟩ := h
  exact open_bytesB (by simpa [Value.cells] using hf)

end Go.Proofs.YthcajggbcanmdaaGreatDoor

namespace Go.Proofs.YthcajggbcanmdaaGreatDoor
namespace fnExactParseText

end fnExactParseText

theorem closed_fnExactParseText : joinedFacts Tryz.prog 5 Tryz.f5 Rows.fnExactParseTextSpec Rows.fnExactParseTextRow = true := by
  unfold joinedFacts
  rw [fnExactParseText.jA, fnExactParseText.jB, fnExactParseText.jC, fnExactParseText.jD, fnExactParseText.jE, fnExactParseText.jF, fnExactParseText.jG, fnExactParseText.jH]
  kernel_rfl

end Go.Proofs.YthcajggbcanmdaaGreatDoor
