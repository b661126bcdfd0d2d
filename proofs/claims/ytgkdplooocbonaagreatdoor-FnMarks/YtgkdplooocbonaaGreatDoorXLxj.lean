/- The program's lexer: a byte in a tag. -/
import Derived.Test.YtgkdplooocbonaaGreatDoorXK6
namespace Go.Proofs.YtgkdplooocbonaaGreatDoor
open Go.RowKit
set_option linter.unusedVariables false
set_option linter.unusedSimpArgs false

set_option maxRecDepth 100000 in
set_option maxHeartbeats 3200000 in
theorem inTag_any (B lo g : Nat) (tp : TypeId) (pv : Value) (b : Nat) (w : World) (hs : List Int) (ts : List TK) (h : LXs lo g w hs ts) (hE : Env B tp pv w) (hB : B ≤ lo) (hu : Byt hs) (hb : b ≤ 255) (hl : hs.length ≤ 159) (hn : ts.length ≤ 800000) (h0 : ¬ hs = []) (hnt : noteB hs = false) :
    Calls Tryz.prog 27 #[.pointer (some ⟨g, 0, none⟩), .int .u8 (b : Int)] w fun e w' => LxP lo g (tagX hs b).2 (ts ++ (tagX hs b).1) w e w' := by
  obtain ⟨hv, tv, us, rs, bl, bh, h⟩ := h
  have lg := h.lg
  obtain ⟨c0, c1, c2⟩ := cellsQ2 h.box
  obtain ⟨p, c, rfl, hbt⟩ := own_bat h.held
  rcases hbt with hbt | ⟨a, o, rfl, hlt, hc⟩
  · exact absurd hbt h0
  have NB := below_new w (.cells #[.int .u8 34] 5)
  have KC := Tryz.bytes_Count_one a o hs.length c w.heap.size 0 1 hs 34 (w.alloc (.cells #[.int .u8 34] 5)) rfl (fun i hi => (NB.cell hlt).trans (hc i hi)) (by simp)
  have e34 : ((34 : Int).toNat.toUInt8) = 34 := by decide
  rw [e34, quotes_count hs hu.mem] at KC
  have KC := Hid.mk' KC
  have hqb : Hid (quotedB hs = decide (quotes hs % 2 = 1)) := Hid.mk' (by unfold quotedB; rw [hnt]; simp)
  have ql := quotes_le hs
  have HL := Hid.mk' (h.below NB)
  have HB := Hid.mk' NB
  have HE := Hid.mk' hE
  have HU := Hid.mk' hu
  clear h hc hE hu NB
  have hcell := cellsQ2 HL.out.box
  generalize quotes hs = q at *
  have W1 : Hid (LXs lo g (w.alloc (.cells #[.int .u8 34] 5)) hs ts) := Hid.mk' ⟨_, _, _, _, _, _, HL.out⟩
  have EW := Hid.mk' (HE.out.keep ((HB.out).mono (show B ≤ w.heap.size by omega)))
  have BW := Hid.mk' (HB.out.mono (show lo ≤ w.heap.size by omega))
  by_cases hq : q % 2 = 1
  · -- within quotes
    have hqi : ((q : Int) % 2 == 1) = true := by simp; omega
    have E0 : Hid (tagX hs b = lenX hs b) := Hid.mk' (by
      have : quotedB hs = true := by rw [hqb.out]; simpa using hq
      unfold tagX
      rw [if_neg (fun x => by rw [this] at x; exact absurd x.2 (by decide)), if_neg (fun x => by rw [this] at x; exact absurd x.2.1 (by decide))])
    have KH := Hid.mk' (hold_any lo g b 160 _ hs ts W1.out HU.out hb (by omega) (by omega) (by omega))
    clear hq hcell
    generalize hV : w.alloc (.cells #[.int .u8 34] 5) = V at *
    cases e62 : ((b : Int) == 62) <;> cases e60 : ((b : Int) == 60)
    all_goals
      go_enter Tryz.func27, Tryz.ntmps27
      go_wp2_with fail
      (try clear hV)
      refine KC.out.mono ?_
      rintro e w1 ⟨rfl, hw⟩
      obtain rfl := hw.symm
      go_wp2_with fail
      refine KH.out.mono ?_
      rintro e w2 ⟨⟨v, rfl⟩, hx, hb2⟩
      have HX := Hid.mk' hx
      have B2 := Hid.mk' (BW.out.trans hb2)
      clear hx hb2 KH
      go_wp2
      go_end0
      refine ⟨⟨_, rfl⟩, ?_, B2.out⟩
      rw [E0.out, lenX_hold]
      exact HX.out
  have hqi : ((q : Int) % 2 == 1) = false := by simp; omega
  have hqf : quotedB hs = false := by rw [hqb.out]; simpa using hq
  by_cases h62 : b = 62
  · subst h62
    have KM := Hid.mk' (closeMark_any B lo g tp pv _ hs ts W1.out EW.out hB hl (by omega))
    have E0 : Hid (tagX hs 62 = (match tagA (strU (hs ++ [62])) with | some t => ([t], []) | none => (bytesT (hs ++ [62]), []))) := Hid.mk' (by
      unfold tagX
      rw [if_pos ⟨rfl, hqf⟩, if_pos hnt]
      rfl)
    clear hq hqf hcell
    generalize hV : w.alloc (.cells #[.int .u8 34] 5) = V at *
    go_enter Tryz.func27, Tryz.ntmps27
    go_wp2_with fail
    clear hV
    refine KC.out.mono ?_
    rintro e w1 ⟨rfl, hw⟩
    obtain rfl := hw.symm
    go_wp2_with fail
    refine KM.out.mono ?_
    rintro e w2 (⟨ht, rfl, hx, hb2⟩ | ⟨t, ht, rfl, hx, hb2⟩)
    · obtain ⟨hv3, tv3, us3, rs3, bl3, bh3, h3⟩ := hx
      have N3 := below_new w2 (.cells #[.int .u8 62] 5)
      have HX := Hid.mk' (h3.below N3)
      have NC := Hid.mk' (new_cells' w2 5 [.int .u8 62] w2.heap.size rfl)
      have H := Hid.mk' h3
      obtain ⟨x0, x1, x2⟩ := cellsQ2 h3.box
      have HN := Hid.mk' N3
      have SZ : Hid (lo ≤ (w2.alloc (.cells #[.int .u8 62] 5)).heap.size) := Hid.mk' (by simp; omega)
      have P1 : Hid (∀ u ∈ ([.int .u8 62] : List Value), u.oneCell' = true) := Hid.mk' (by intro u hu'; rw [List.mem_singleton] at hu'; rw [hu']; rfl)
      obtain ⟨ha, hc', rfl, _⟩ := own_src h3.held
      have BX := Hid.mk' (BW.out.trans hb2)
      rw [ht] at E0
      clear h3 N3 KM hb2 ht c0 c1 c2 HL HB W1 EW BW
      go_wp2_with (first | (at_builtin; refine wpList_append_at _ rfl (.tmp 30) (.tmp 32) 22 rfl lo 5 (.int .u8 0) 1 1 Tryz.underlying22 Tryz.info5 rfl (by decide) _ _ _ rfl HX.out.held _ 1 _ [.int .u8 62] rfl rfl (.inr ⟨_, rfl, NC.out⟩) P1.out (by unfold maxLen; omega) (by omega) SZ.out ?_; intro v' w4 ho hgr hat; obtain ⟨a', c', rfl, _⟩ := own_src ho; obtain ⟨d1, f1⟩ := HX.out.spotH hgr) | fail)
      have L2 := holdX H.out HN.out ho hgr hat
      have B2 := Hid.mk' (BX.out.trans (heldBl HX.out HN.out hgr (.slice a' (hs.length + 1) c') (by omega)))
      have KG := Hid.mk' (letGo_any lo g _ (hs ++ [62]) ts ⟨_, _, _, _, _, _, L2⟩ (HU.out.snoc 62 (by omega)) (by simp; omega))
      clear L2 ho hgr hat d1 f1
      refine KG.out.mono ?_
      rintro e w5 ⟨⟨v, rfl⟩, hx, hb5⟩
      have HX5 := Hid.mk' hx
      have B5 := Hid.mk' (B2.out.trans hb5)
      clear hx hb5 KG
      go_wp2
      go_end0
      exact ⟨⟨_, rfl⟩, by rw [E0.out]; exact HX5.out, B5.out⟩
    · have HX := Hid.mk' hx
      have B2 := Hid.mk' (BW.out.trans hb2)
      rw [ht] at E0
      clear hx hb2 KM ht
      go_wp2
      go_end0
      exact ⟨⟨_, rfl⟩, by rw [E0.out]; exact HX.out, B2.out⟩
  have e62 : ((b : Int) == 62) = false := by simp; omega
  by_cases h60 : b = 60
  · subst h60
    have KG := Hid.mk' (letGo_any lo g _ hs ts W1.out HU.out (by omega))
    have E0 : Hid (tagX hs 60 = (bytesT hs, [60])) := Hid.mk' (by
      unfold tagX
      rw [if_neg (fun x => h62 x.1), if_pos ⟨rfl, hqf, hnt⟩]
      rfl)
    clear hq hqf h62 hcell
    generalize hV : w.alloc (.cells #[.int .u8 34] 5) = V at *
    go_enter Tryz.func27, Tryz.ntmps27
    go_wp2_with fail
    clear hV
    refine KC.out.mono ?_
    rintro e w1 ⟨rfl, hw⟩
    obtain rfl := hw.symm
    go_wp2_with fail
    refine KG.out.mono ?_
    rintro e w2 ⟨⟨v, rfl⟩, hx, hb2⟩
    have KO := Hid.mk' (outside_any lo g 60 w2 _ hx hb (by rw [List.length_append, bytesT_len]; omega))
    have B2 := Hid.mk' (BW.out.trans hb2)
    clear hx hb2 KG
    go_wp2_with fail
    refine KO.out.mono ?_
    rintro e w3 ⟨⟨v, rfl⟩, hx, hb3⟩
    have HX := Hid.mk' hx
    have B3 := Hid.mk' (B2.out.trans hb3)
    clear hx hb3 KO
    go_wp2
    go_end0
    refine ⟨⟨_, rfl⟩, ?_, B3.out⟩
    rw [E0.out]
    have := HX.out
    rw [bytesT_two] at this
    simpa [noneH, noneT] using this
  · have e60 : ((b : Int) == 60) = false := by simp; omega
    have E0 : Hid (tagX hs b = lenX hs b) := Hid.mk' (by
      unfold tagX
      rw [if_neg (fun x => h62 x.1), if_neg (fun x => h60 x.1)])
    have KH := Hid.mk' (hold_any lo g b 160 _ hs ts W1.out HU.out hb (by omega) (by omega) (by omega))
    clear hq hqf h62 h60 hcell
    generalize hV : w.alloc (.cells #[.int .u8 34] 5) = V at *
    go_enter Tryz.func27, Tryz.ntmps27
    go_wp2_with fail
    clear hV
    refine KC.out.mono ?_
    rintro e w1 ⟨rfl, hw⟩
    obtain rfl := hw.symm
    go_wp2_with fail
    refine KH.out.mono ?_
    rintro e w2 ⟨⟨v, rfl⟩, hx, hb2⟩
    have HX := Hid.mk' hx
    have B2 := Hid.mk' (BW.out.trans hb2)
    clear hx hb2 KH
    go_wp2
    go_end0
    refine ⟨⟨_, rfl⟩, ?_, B2.out⟩
    rw [E0.out, lenX_hold]
    exact HX.out

end Go.Proofs.YtgkdplooocbonaaGreatDoor
