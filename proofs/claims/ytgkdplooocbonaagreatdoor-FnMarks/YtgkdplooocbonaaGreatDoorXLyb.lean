/- The law FnMarks. -/
import Derived.Test.YtgkdplooocbonaaGreatDoorXLya
import Derived.Deep.RegionHeld3
namespace Go.Proofs.YtgkdplooocbonaaGreatDoor
open Go.RowKit
set_option linter.unusedVariables false
set_option linter.unusedSimpArgs false

theorem fLR1 (c : Int) (a b : Option Addr) (n k m j : Nat) (w : World) : (Instr.field 29 (.agg #[.int .i64 c, .slice a n k, .slice b m j]) 1).run Tryz.prog w = .ok (.slice a n k) w := by kernel_rfl

theorem two_att {lo lo5 m4 m5 : Nat} {wa wb W : World} {T B : List TK} {us4 us5 : List Value} {rs4 rs5 : Nat → List Value} {bl4 bh4 bl5 bh5 : Nat → Nat} (h4 : TA lo m4 wa T us4 rs4 bl4 bh4) (h5 : TA lo5 m5 wb B us5 rs5 bl5 bh5) (hlo : lo ≤ m4) (h45 : m4 ≤ lo5) (hm5 : lo5 ≤ m5)
    (e4 : ∀ k, k < wa.heap.size → W.heap[k]? = wa.heap[k]?) (e5 : ∀ k, k < wb.heap.size → W.heap[k]? = wb.heap[k]?) : ∀ j, j < (T ++ B).length → ∃ p c, (us4 ++ us5).getD j undef = .slice p (tkK (T ++ B) j).at_.length c ∧ AAt W p (tkK (T ++ B) j).at_ := fun j hj =>
  ((TA.app (h4.keep (w' := W) (fun i hi x h1 h2 h3 => e4 x h3)) ((h5.keep (w' := W) (fun i hi x h1 h2 h3 => e5 x h3)).widen h45 (Nat.le_refl _)) hlo (by omega)).att j hj).at

set_option maxRecDepth 100000 in
set_option maxHeartbeats 12000000 in
theorem lawFM_any (q : Option Addr) (c' : Nat) (l : List Int) (tp : TypeId) (pv : Value) (w : World) (hE : Env w.heap.size tp pv w) (hd : BAt w q l) (hu : Byt l) (hl : (l.length : Int) ≤ 9223372036854775807) :
    Calls Tryz.prog 3 #[.slice q l.length c'] w fun e w' => e = .returned (.bool true) ∧ Below w.heap.size w w' := by
  have K0 := Hid.mk' (lwBigF_any q c' l.length w)
  by_cases g1 : (1048576 : Int) < (l.length : Int)
  · go_enter Tryz.func3, Tryz.ntmps3
    go_wp2_with fail
    refine K0.out.mono ?_
    rintro e w1 ⟨rfl, hw1⟩
    obtain rfl := hw1.symm
    rw [decide_eq_true g1]
    go_wp2
    go_ret
    exact ⟨rfl, Below.refl _ _⟩
  have ll : (l.length : Int) ≤ 1048576 := by omega
  have KD := Hid.mk' (drawLexText_any q c' l w hd hu ll)
  have HE := Hid.mk' hE
  clear hE hd hu
  go_enter Tryz.func3, Tryz.ntmps3
  go_wp2_with fail
  refine K0.out.mono ?_
  rintro e w1 ⟨rfl, hw1⟩
  obtain rfl := hw1.symm
  rw [decide_eq_false (show ¬ (1048576 : Int) < (l.length : Int) by omega)]
  clear K0 g1 hw1
  go_wp2_with fail
  refine KD.out.mono ?_
  rintro e w1 ⟨d, ad, cd, rfl, hat, hdl, hdu, hb1⟩
  have HB1 := Hid.mk' hb1
  have HAT := Hid.mk' hat
  have HU := Hid.mk' hdu
  clear hb1 hat hdu KD
  go_wp2
  go_loopw [4, 5] (fun v i wr => ∃ k : Nat, k ≤ d.length ∧ i = .int .i64 (k : Int) ∧ wr.ownsRow w1.heap.size 5 1 v (plainL (d.take k)).length (bcs (plainL (d.take k))) ∧ Below w1.heap.size w1 wr) (fun _ i _ => d.length - (intOf i).toNat)
  case atStart => exact ⟨0, Nat.zero_le _, rfl, by simpa [plainL, bcs] using World.ownsRow_lit w1 #[] 0 (Nat.le_refl _) (by decide) rfl, below_new _ _⟩
  case round =>
    obtain ⟨k, hk, rfl, ho, hbl⟩ := hrel
    by_cases ck : k < d.length
    · have ci : (k : Int) < (d.length : Int) := by omega
      obtain ⟨pa, pc, rfl⟩ := own_form ho
      have px := plainL_le d k
      have PS := Hid.mk' (plainL_snoc d k ck)
      have HO := Hid.mk' ho
      have HBL := Hid.mk' hbl
      have hu := HU.out k ck
      rcases HAT.out.below hbl with h0 | ⟨b, o, rfl, hlt, hc⟩
      · exact absurd ck (by rw [h0]; exact Nat.not_lt_zero _)
      have hcell := hc k ck
      unfold bv at hcell
      clear hc ho hbl
      generalize d.getD k 0 = x at *
      by_cases x60 : x = 60
      · have e1 : plainL (d.take (k + 1)) = plainL (d.take k) := by rw [PS.out, if_pos (.inl x60)]
        have HO2 := Hid.mk' HO.out
        rw [← e1] at HO2
        subst x60
        clear HO PS
        go_wp2
        go_roundw
        case rel => exact ⟨k + 1, by omega, by go_num, by rw [e1] at HO2 ⊢; exact HO2.out, HBL.out⟩
        case measure => simp [intOf]; omega
      by_cases x38 : x = 38
      · have e1 : plainL (d.take (k + 1)) = plainL (d.take k) := by rw [PS.out, if_pos (.inr x38)]
        subst x38
        go_wp2
        go_roundw
        case rel => exact ⟨k + 1, by omega, by go_num, by rw [e1]; exact HO.out, HBL.out⟩
        case measure => simp [intOf]; omega
      have e1 : plainL (d.take (k + 1)) = plainL (d.take k) ++ [x] := by rw [PS.out, if_neg (fun h => h.elim x60 x38)]
      have HO2 := Hid.mk' (HO.out.alloc (.cells #[.int .u8 x] 5))
      have n60 : (x != 60) = true := by simp [x60]
      have n38 : (x != 38) = true := by simp [x38]
      have sz := HBL.out.size
      have HE1 := Hid.mk' e1
      clear PS e1
      generalize plainL (d.take k) = P at *
      go_wp2_with (at_builtin; refine wpList_append_at _ rfl (.tmp 33) (.tmp 38) 22 rfl w1.heap.size 5 (.int .u8 0) 1 1 Tryz.underlying22 Tryz.info5 rfl (by decide) _ _ _ rfl HO2.out _ 1 _ (bcs [x]) rfl (l1 _) (.inr ⟨_, rfl, one_byte wr _ _ rfl⟩) (bcs_one _) (by unfold maxLen; omega) (by omega) (by simp; omega) ?_; intro v' w2 ho hgr hat; have HO3 := Hid.mk' ho; have HB3 := Hid.mk' ((HBL.out.alloc sz _).grown hgr (by simp; omega) (fun y e => (HO2.out.lt y e).1)); clear ho hgr hat)
      go_roundw
      case rel => exact ⟨k + 1, by omega, by go_num, by rw [HE1.out, List.length_append, bcs_append]; exact HO3.out, HB3.out⟩
      case measure => simp [intOf]; omega
    · have ci : ¬ (k : Int) < (d.length : Int) := by omega
      have ek : k = d.length := by omega
      subst ek
      rw [List.take_length] at ho
      obtain ⟨pa, pc, rfl⟩ := own_form ho
      have HP := Hid.mk' (own_batP ho)
      have HB2 := Hid.mk' (HB1.out.trans (hbl.mono HB1.out.size))
      have HAT2 := Hid.mk' (HAT.out.below hbl)
      have lp := plainL_le d d.length
      rw [List.take_length] at lp
      have HPU := Hid.mk' (byt_plain HU.out)
      have HPM := Hid.mk' (lexX_plain (plainL d) (fun x hx => ⟨(HU.out.mem x (plainL_mem hx).1).1, (plainL_mem hx).2⟩))
      clear ho hbl HAT HB1
      generalize plainL d = P at *
      have KI := Hid.mk' (implLT_any tp pv P pa pc wr ((HE.out.keep HB2.out).up HB2.out.size (Nat.le_refl _)) HP.out HPU.out (by omega))
      go_wp2_with fail
      refine KI.out.mono ?_
      rintro e w2 (⟨h6, rfl, hb2⟩ | ⟨h6, tv, us, rs, bl, bh, rfl, ht, hb2⟩)
      · have N2 := below_new w2 (.cells #[.int .i64 6, .slice none 0 0, .slice none 0 0] 29)
        have M2 := hb2.trans (N2.mono hb2.size)
        have HB3 := Hid.mk' (HB2.out.trans (M2.mono HB2.out.size))
        obtain ⟨z0, z1, z2, z3⟩ := cells3 (row3 w2 29 (.int .i64 6) (.slice none 0 0) (.slice none 0 0))
        have hg : (P.length : Int) > 240 := by omega
        clear N2 M2 hb2 KI HAT2 HP
        go_wp2
        go_ret
        exact ⟨rfl, HB3.out⟩
      rw [HPM.out] at ht
      obtain ⟨ta, tc, rfl, hts⟩ := ht.tsAtM
      have N2 := below_new w2 (.cells #[.int .i64 0, .slice ta (bytesT P).length tc, .slice none 0 0] 29)
      have M2 := hb2.trans (N2.mono hb2.size)
      have HB3 := Hid.mk' (HB2.out.trans (M2.mono HB2.out.size))
      have HTS := Hid.mk' (hts.below N2)
      have HP3 := Hid.mk' (HP.out.below M2)
      have HAT3 := Hid.mk' (HAT2.out.below M2)
      have RL := Hid.mk' (row3 w2 29 (.int .i64 0) (.slice ta (bytesT P).length tc) (.slice none 0 0))
      have bL := bytesT_len P
      rw [bL] at RL HTS HP3 HAT3 HB3 ⊢
      clear N2 M2 hb2 KI HAT2 HP HB2 ht hts HPM
      obtain ⟨z0, z1, z2, z3⟩ := cells3 RL.out
      go_wp2
      generalize w2.alloc (.cells #[.int .i64 0, .slice ta P.length tc, .slice none 0 0] 29) = W3 at *
      go_loopw [7] (fun i wr => ∃ k : Nat, k ≤ P.length ∧ i = .int .i64 (k : Int) ∧ Below W3.heap.size W3 wr) (fun i _ => P.length - (intOf i).toNat)
      case atStart => exact ⟨0, Nat.zero_le _, rfl, Below.refl _ _⟩
      case round =>
        obtain ⟨k, hk, rfl, hbw⟩ := hrel
        clear z0 z1 z2 z3
        by_cases ck : k < P.length
        · have ci : (k : Int) < (P.length : Int) := by omega
          obtain ⟨z0, z1, z2, z3⟩ := cells3 (rowB RL.out hbw)
          have HBW := Hid.mk' hbw
          have hu := HPU.out k ck
          have tb := bytesT_at P k ck
          rcases HTS.out.below hbw with h0 | ⟨tg, to, rfl, tlt, tcs'⟩
          · exact absurd ck (by rw [← bL, h0]; exact Nat.not_lt_zero _)
          obtain ⟨t0, t1, t2, ⟨tp', tc', t3, _⟩, t4⟩ := tcs' k (by rw [bL]; exact ck)
          rw [tb] at t0 t1 t2 t3 t4
          rcases HP3.out.below hbw with h0 | ⟨pb, po, rfl, plt, pcs'⟩
          · exact absurd ck (by rw [h0]; exact Nat.not_lt_zero _)
          have p0 := pcs' k ck
          unfold bv at p0
          unfold byteT at t0 t1 t2 t3 t4
          dsimp only at t0 t1 t2 t3 t4
          clear tcs' pcs' tb hbw
          generalize P.getD k 0 = x at *
          have wx : IntKind.i64.wrap x = x := by rw [IntKind.wrap_i64]; omega
          go_wp2
          go_region_held3 (fun w' => w'.cell? ⟨w2.heap.size, 1, none⟩ = some (.slice (some ⟨tg, to, none⟩) P.length tc) ∧ w'.cell? ⟨tg, to + k * 5, none⟩ = some (.int .i64 1) ∧ w'.cell? ⟨tg, to + k * 5 + 1, none⟩ = some (.int .i64 x) ∧ w'.cell? ⟨pb, po + k, none⟩ = some (.int .u8 x)) (simp [*]) (fail)
          go_wp2
          go_roundw
          case rel => exact ⟨k + 1, by omega, by go_num, HBW.out.drew⟩
          case measure => simp [intOf]; omega
        · have ci : ¬ (k : Int) < (P.length : Int) := by omega
          have HB3 := Hid.mk' (HB3.out.trans (hbw.mono HB3.out.size))
          have HAT3 := Hid.mk' (HAT3.out.below hbw)
          clear RL HTS HP3 hbw
          have KF := Hid.mk' (feedAll_any tp pv d ad cd wr ((HE.out.keep HB3.out).up HB3.out.size (Nat.le_refl _)) HAT3.out HU.out (by omega))
          go_wp2_with fail
          refine KF.out.mono ?_
          rintro e w4 (⟨h7, rfl, hb4⟩ | ⟨h7, hv, tv, us4, rs4, bl4, bh4, lo, g, rfl, hlo, hx, hb4⟩)
          · have N4 := below_new w4 (.cells #[.int .i64 6, .slice none 0 0, .slice none 0 0] 29)
            have M4 := hb4.trans (N4.mono hb4.size)
            have HB4 := Hid.mk' (HB3.out.trans (M4.mono HB3.out.size))
            obtain ⟨z0, z1, z2, z3⟩ := cells3 (row3 w4 29 (.int .i64 6) (.slice none 0 0) (.slice none 0 0))
            have hg : (d.length : Int) > 240 := by omega
            clear N4 M4 hb4 KF HAT3
            go_wp2
            go_ret
            exact ⟨rfl, HB4.out⟩
          have ug := Hid.mk' (allX_good d [] [] (.inl rfl))
          have ub := Hid.mk' (allX_byt d [] [] HU.out.mem Byt.nil)
          have gl := ug.out.len
          have EX : Hid (lexX d = (allX [] [] d).1 ++ bytesT (allX [] [] d).2) := Hid.mk' rfl
          have fit := lex_fits d
          rw [EX.out] at fit
          obtain ⟨ha, hc, rfl, hbt⟩ := own_bat hx.held
          have htp := hx.tp
          obtain ⟨sa, sc, rfl, hsts⟩ := htp.tsAtM
          have N4 := below_new w4 (.cells #[.int .i64 0, .slice sa (allX [] [] d).1.length sc, .slice ha (allX [] [] d).2.length hc] 29)
          have M4 := hb4.trans (N4.mono hb4.size)
          have HN4 := Hid.mk' N4
          have HB4 := Hid.mk' (HB3.out.trans (M4.mono HB3.out.size))
          have HAT4 := Hid.mk' (HAT3.out.below M4)
          have HTA4 := Hid.mk' (htp.ta)
          have HTP := Hid.mk' (htp.below N4)
          have RA := Hid.mk' (row3 w4 29 (.int .i64 0) (.slice sa (allX [] [] d).1.length sc) (.slice ha (allX [] [] d).2.length hc))
          have KN := Hid.mk' (finishLex_any ha hc _ _ (hbt.below N4) ug.out ub.out)
          have LO := Hid.mk' hlo
          have HLW := Hid.mk' (show lo ≤ w4.heap.size by have h1 := hx.lg; have h2 := hx.lt; omega)
          have KI : Hid (∀ V : World, Below w.heap.size w V → BAt V ad d → Calls Tryz.prog 6 #[.slice ad d.length cd] V fun e w' => ∃ tv us rs bl bh, e = .returned (.agg #[.int .i64 0, tv, .slice none 0 0]) ∧ TP V.heap.size w' tv ((allX [] [] d).1 ++ bytesT (allX [] [] d).2) us rs bl bh ∧ Below V.heap.size V w') := Hid.mk' (fun V hV h2 => (implLT_any tp pv d ad cd V ((HE.out.keep hV).up hV.size (Nat.le_refl _)) h2 HU.out (by omega)).mono (by
            rintro e w' (⟨h8, _, _⟩ | ⟨_, tv, us, rs, bl, bh, rfl, ht, hb⟩)
            · exact absurd h8 h7
            · exact ⟨tv, us, rs, bl, bh, rfl, by rw [← EX.out]; exact ht, hb⟩))
          clear hb4 N4 M4 KF hx hbt htp hlo ub ug hsts HAT3 HB3
          generalize (allX [] [] d).1 = T at *
          generalize (allX [] [] d).2 = H at *
          obtain ⟨z0, z1, z2, z3⟩ := cells3 RA.out
          go_wp2_with fail
          generalize w4.alloc (.cells #[.int .i64 0, .slice sa T.length sc, .slice ha H.length hc] 29) = V at *
          refine KN.out.mono ?_
          rintro e w5 ⟨hv5, tv5, us5, rs5, bl5, bh5, lo5, g5, rfl, hlo5, hx5, hb5⟩
          have htp5 := hx5.tp
          obtain ⟨ha5, hc5, rfl, _⟩ := own_src hx5.held
          obtain ⟨sa5, sc5, rfl, hsts5⟩ := htp5.tsAtM
          have N5 := below_new w5 (.cells #[.int .i64 0, .slice sa5 (bytesT H).length sc5, .slice ha5 ([] : List Int).length hc5] 29)
          have M5 := hb5.trans (N5.mono hb5.size)
          have HB5 := Hid.mk' (HB4.out.trans (M5.mono HB4.out.size))
          have HAT5 := Hid.mk' (HAT4.out.below M5)
          have HTP4 := Hid.mk' (HTP.out.below M5)
          have HTA5 := Hid.mk' (htp5.ta)
          have HTP5 := Hid.mk' (htp5.below N5)
          have HL5 := Hid.mk' (show w4.heap.size ≤ lo5 by have h1 := RA.out.lt; omega)
          have HL6 := Hid.mk' (show lo5 ≤ w5.heap.size by have h1 := hx5.lg; have h2 := hx5.lt; omega)
          have HKB := Hid.mk' M5
          have HN5 := Hid.mk' N5
          have RA5 := Hid.mk' (rowB RA.out M5)
          have RF := Hid.mk' (row3 w5 29 (.int .i64 0) (.slice sa5 (bytesT H).length sc5) (.slice ha5 ([] : List Int).length hc5))
          clear hb5 N5 M5 KN hx5 htp5 hsts5 HAT4 HB4 RA HTP z0 z1 z2 z3
          generalize bytesT H = B at *
          obtain ⟨x0, x1, x2, x3⟩ := cells3 RA5.out
          obtain ⟨y0, y1, y2, y3⟩ := cells3 RF.out
          go_wp2_with fail
          generalize w5.alloc (.cells #[.int .i64 0, .slice sa5 B.length sc5, .slice ha5 ([] : List Int).length hc5] 29) = V5 at *
          have hcells : ∀ (A W : World), Below V5.heap.size V5 W → W.cell? ⟨w5.heap.size, 0, none⟩ = some (.int .i64 0) ∧ W.cell? ⟨w5.heap.size, 1, none⟩ = some (.slice sa5 B.length sc5) ∧ W.cell? ⟨w4.heap.size, 1, none⟩ = some (.slice sa T.length sc) := fun A W hb => ⟨(cells3 (rowB RF.out hb)).1, (cells3 (rowB RF.out hb)).2.1, (cells3 (rowB RA5.out hb)).2.1⟩
          have htaA : ∀ (W : World), Below V5.heap.size V5 W → ∀ j, j < (T ++ B).length → ∃ p c, (us4 ++ us5).getD j undef = .slice p (tkK (T ++ B) j).at_.length c ∧ AAt W p (tkK (T ++ B) j).at_ := fun W hb => two_att HTA4.out HTA5.out HLW.out HL5.out HL6.out (fun x hx => by rw [hb.block x (by have h1 := HKB.out.size; have h2 := HN4.out.size; omega), HKB.out.block x (by have h2 := HN4.out.size; omega), HN4.out.block x hx]) (fun x hx => by rw [hb.block x (by have := HN5.out.size; omega), HN5.out.block x hx])
          have HTAA := Hid.mk' htaA
          have HCE := Hid.mk' hcells
          clear htaA hcells
          have N6 : Below V5.heap.size V5 (V5.drew.alloc (.cells #[] 33)) := ((Below.refl _ V5).drew).alloc (by simp) _
          have S6 := Hid.mk' (HCE.out V5 _ N6)
          have OWN0 : Hid ((V5.drew.alloc (.cells #[] 33)).ownsRow V5.heap.size 33 5 (.slice (some ⟨V5.drew.heap.size, 0, none⟩) 0 0) 0 []) := Hid.mk' (World.ownsRow_lit V5.drew #[] 0 (Nat.le_refl _) (by decide) rfl)
          obtain ⟨_, _, eT, srcT⟩ := own_src (own_keep HTP4.out.row N6)
          cases eT
          have SRCT := Hid.mk' srcT
          have hlenT := Hid.mk' (tcs_len T us4 HTP4.out.ta.len)
          have honeT := Hid.mk' (tcs_one T us4 HTP4.out.ta.one)
          have hlenB := Hid.mk' (tcs_len B us5 HTP5.out.ta.len)
          have honeB := Hid.mk' (tcs_one B us5 HTP5.out.ta.one)
          have HN6 := Hid.mk' N6
          have fit' : T.length + B.length ≤ 1000 ∧ tssz (T ++ B) ≤ 1000 := by
            unfold wei at fit
            rw [List.length_append] at fit
            omega
          clear srcT N6
          refine wp_region_held_drew (S := (fun w' => w'.cell? ⟨w5.heap.size, 0, none⟩ = some (.int .i64 0) ∧ w'.cell? ⟨w5.heap.size, 1, none⟩ = some (.slice sa5 B.length sc5) ∧ w'.cell? ⟨w4.heap.size, 1, none⟩ = some (.slice sa T.length sc))) (by kernel_rfl) (by simp [*]) (fun hHeld => ?_)
          refine wpAnyH_take (i := 0) (oi := ⟨_, _, _, _, _, _⟩) (v := ?_) rfl (by kernel_rfl) (by kernel_rfl) (by kernel_rfl) (fun _ _ _ h => h) (Or.inl ⟨by rfl, ?_⟩) (by assumption) ?_
          rotate_left
          · (intro w hSw; (try dsimp only at hSw); go_simp; (try with_reducible rfl))
          try simp only [Act.put, List.setIfInBounds_toArray, List.set_cons_zero, List.set_cons_succ]
          refine wpAnyH_take (i := 1) (oi := ⟨_, _, _, _, _, _⟩) (v := ?_) rfl (by kernel_rfl) (by kernel_rfl) (by kernel_rfl) (fun _ _ _ h => h) (Or.inl ⟨by rfl, ?_⟩) (by assumption) ?_
          rotate_left
          · (intro w hSw; (try dsimp only at hSw); go_simp; (try with_reducible rfl))
          try simp only [Act.put, List.setIfInBounds_toArray, List.set_cons_zero, List.set_cons_succ]
          refine wpAnyH_take (i := 2) (oi := ⟨_, _, _, _, _, _⟩) (v := ?_) rfl (by kernel_rfl) (by kernel_rfl) (by kernel_rfl) (fun _ _ _ h => h) (Or.inl ⟨by rfl, ?_⟩) (by assumption) ?_
          rotate_left
          · (intro w hSw; (try dsimp only at hSw); go_simp; (try with_reducible rfl))
          try simp only [Act.put, List.setIfInBounds_toArray, List.set_cons_zero, List.set_cons_succ]
          refine wpAnyH_take (i := 3) (oi := ⟨_, _, _, _, _, _⟩) (v := ?_) rfl (by kernel_rfl) (by kernel_rfl) (by kernel_rfl) (fun _ _ _ h => h) (Or.inl ⟨by rfl, ?_⟩) (by assumption) ?_
          rotate_left
          · (intro w hSw; (try dsimp only at hSw); go_simp; (try with_reducible rfl))
          try simp only [Act.put, List.setIfInBounds_toArray, List.set_cons_zero, List.set_cons_succ]
          refine wpAnyH_take (i := 5) (oi := ⟨_, _, _, _, _, _⟩) (v := ?_) rfl (by kernel_rfl) (by kernel_rfl) (by kernel_rfl) (fun _ _ _ h => h) (Or.inl ⟨by rfl, ?_⟩) (by assumption) ?_
          rotate_left
          · (intro w hSw; (try dsimp only at hSw); go_simp; (try with_reducible rfl))
          try simp only [Act.put, List.setIfInBounds_toArray, List.set_cons_zero, List.set_cons_succ]
          refine wpAnyH_take (i := 6) (oi := ⟨_, _, _, _, _, _⟩) (v := ?_) rfl (by kernel_rfl) (by kernel_rfl) (by kernel_rfl) (fun _ _ _ h => h) (Or.inl ⟨by rfl, ?_⟩) (by assumption) ?_
          rotate_left
          · (intro w hSw; (try dsimp only at hSw); go_simp; (try with_reducible rfl))
          try simp only [Act.put, List.setIfInBounds_toArray, List.set_cons_zero, List.set_cons_succ]
          refine wpAnyH_take (i := 8) (oi := ⟨_, _, _, _, _, _⟩) (v := ?_) rfl (by kernel_rfl) (by kernel_rfl) (by kernel_rfl) (fun _ _ _ h => h) (Or.inl ⟨by rfl, ?_⟩) (by assumption) ?_
          rotate_left
          · (intro w hSw; (try dsimp only at hSw); go_simp; (try with_reducible rfl))
          try simp only [Act.put, List.setIfInBounds_toArray, List.set_cons_zero, List.set_cons_succ]
          refine wpAnyH_take (i := 9) (oi := ⟨_, _, _, _, _, _⟩) (v := ?_) rfl (by kernel_rfl) (by kernel_rfl) (by kernel_rfl) (fun _ _ _ h => h) (Or.inl ⟨by rfl, ?_⟩) (by assumption) ?_
          rotate_left
          · (intro w hSw; (try dsimp only at hSw); go_simp; (try with_reducible rfl))
          try simp only [Act.put, List.setIfInBounds_toArray, List.set_cons_zero, List.set_cons_succ]
          refine wpAnyH_take (i := 11) (oi := ⟨_, _, _, _, _, _⟩) (v := ?_) rfl (by kernel_rfl) (by kernel_rfl) (by kernel_rfl) (fun _ _ _ h => h) (Or.inl ⟨by rfl, ?_⟩) (by assumption) ?_
          rotate_left
          · (intro w hSw; (try dsimp only at hSw); go_simp; (try with_reducible rfl))
          try simp only [Act.put, List.setIfInBounds_toArray, List.set_cons_zero, List.set_cons_succ]
          refine wpAnyH_ready (rs := [4]) (by kernel_rfl) (by simp) ?_
          refine AllReadyH.cons (o := ⟨_, _, _, _, _, _⟩) rfl (fun K hK => ?_) AllReadyH.nil
          go_simp
          refine hK.out _ _ S6.out (fun hHeld => ?_)
          clear hK K
          try simp only [Act.put, List.setIfInBounds_toArray, List.set_cons_zero, List.set_cons_succ]
          refine wpAnyH_ready (rs := [7]) (by kernel_rfl) (by simp) ?_
          refine AllReadyH.cons (o := ⟨_, _, _, _, _, _⟩) rfl (fun K hK => ?_) AllReadyH.nil
          refine step_append_atW (by rfl) (.tmp 97) (.tmp 99) 25 rfl V5.heap.size 33 (.agg #[.int .i64 0, .int .i64 0, .string ⟨#[]⟩, .slice none 0 0, .bool false]) 5 64 Tryz.underlying25 Tryz.infoTok rfl (by decide) _ 0 [] rfl OWN0.out sa T.length sc (tcs T us4) rfl hlenT.out SRCT.out honeT.out (by unfold maxLen; omega) (by omega) (by simp) ?_
          intro v6 w6 ho6 hg6 ha6
          have B6 := HN6.out.grown hg6 (by simp) (fun x e => (OWN0.out.lt x e).1)
          have S7 := Hid.mk' (HCE.out V5 w6 B6)
          have HO6 := Hid.mk' ho6
          have HB6 := Hid.mk' B6
          obtain ⟨_, _, eB, srcB⟩ := own_src (own_keep HTP5.out.row B6)
          cases eB
          have SRCB := Hid.mk' srcB
          obtain ⟨a6, c6, rfl, _⟩ := own_src ho6
          clear ho6 hg6 ha6 srcB B6
          refine hK.out _ _ S7.out (fun hHeld => ?_)
          clear hK K
          try simp only [Act.put, List.setIfInBounds_toArray, List.set_cons_zero, List.set_cons_succ]
          refine wpAnyH_ready (rs := [10]) (by kernel_rfl) (by simp) ?_
          refine AllReadyH.cons (o := ⟨_, _, _, _, _, _⟩) rfl (fun K hK => ?_) AllReadyH.nil
          refine step_append_atW (by rfl) (.tmp 100) (.tmp 102) 25 rfl V5.heap.size 33 (.agg #[.int .i64 0, .int .i64 0, .string ⟨#[]⟩, .slice none 0 0, .bool false]) 5 64 Tryz.underlying25 Tryz.infoTok rfl (by decide) _ _ _ rfl HO6.out sa5 B.length sc5 (tcs B us5) rfl hlenB.out SRCB.out honeB.out (by unfold maxLen; omega) (by omega) HB6.out.size ?_
          intro v7 w7 ho7 hg7 ha7
          have B7 := HB6.out.grown hg7 HB6.out.size (fun x e => (HO6.out.lt x e).1)
          have S8 := Hid.mk' (HCE.out V5 w7 B7)
          have HB7 := Hid.mk' B7
          rw [List.nil_append, ← tcs_app _ _ _ _ HTP4.out.ta.len, Nat.zero_add, ← List.length_append] at ho7
          obtain ⟨a7, c7, rfl, hts7⟩ := row_tsAtM (by rw [List.length_append, List.length_append, HTP4.out.ta.len, HTP5.out.ta.len]) ho7 (HTAA.out w7 B7)
          have HTS7 := Hid.mk' hts7
          clear ho7 hg7 ha7 B7 hts7
          refine hK.out _ _ S8.out (fun hHeld => ?_)
          clear hK K
          try simp only [Act.put, List.setIfInBounds_toArray, List.set_cons_zero, List.set_cons_succ]
          refine wpAnyH_ready (rs := [12]) (by kernel_rfl) (by simp) ?_
          refine AllReadyH.cons (o := ⟨_, _, _, _, _, _⟩) rfl (fun K hK => ?_) AllReadyH.nil
          go_simp
          refine (KI.out w7 (HB5.out.trans (HB7.out.mono HB5.out.size)) (HAT5.out.below HB7.out)).mono ?_
          rintro e w8 ⟨tv8, us8, rs8, bl8, bh8, rfl, ht8, hb8⟩
          obtain ⟨a8, c8, rfl, hts8⟩ := ht8.tsAtM
          have HTS8 := Hid.mk' hts8
          have HTS7' := Hid.mk' (HTS7.out.below hb8)
          have HB8 := Hid.mk' (HB7.out.trans (hb8.mono HB7.out.size))
          have S9 := Hid.mk' (HCE.out V5 w8 HB8.out)
          have KSM0 := implSameT_any a7 a8 c7 c8 (T ++ B) (T ++ B) w8 HTS7'.out HTS8.out (by rw [List.length_append]; omega) (by rw [List.length_append]; omega)
          rw [sameTs_refl, List.length_append] at KSM0
          have KSM := Hid.mk' KSM0
          clear KSM0
          clear ht8 hts8 hb8
          refine hK.out _ _ S9.out (fun hHeld => ?_)
          clear hK K
          try simp only [Act.put, List.setIfInBounds_toArray, List.set_cons_zero, List.set_cons_succ]
          refine wpAnyH_take (i := 13) (oi := ⟨_, _, _, _, _, _⟩) (v := ?_) rfl (by kernel_rfl) (by kernel_rfl) (by kernel_rfl) (fun _ _ _ h => h) (Or.inl ⟨by rfl, ?_⟩) (by assumption) ?_
          rotate_left
          · (intro w hSw; (try dsimp only at hSw); go_simp; rw [fLR1]; rfl)
          try simp only [Act.put, List.setIfInBounds_toArray, List.set_cons_zero, List.set_cons_succ]
          refine wpAnyH_ready (rs := [14]) (by kernel_rfl) (by simp) ?_
          refine AllReadyH.cons (o := ⟨_, _, _, _, _, _⟩) rfl (fun K hK => ?_) AllReadyH.nil
          go_simp
          refine KSM.out.mono ?_
          rintro e w9 ⟨rfl, hb9⟩
          have HB9 := Hid.mk' (HB8.out.trans (hb9.mono HB8.out.size))
          have S10 := Hid.mk' (HCE.out V5 w9 HB9.out)
          clear hb9
          refine hK.out _ _ S10.out (fun hHeld => ?_)
          clear hK K
          try simp only [Act.put, List.setIfInBounds_toArray, List.set_cons_zero, List.set_cons_succ]
          refine wpAnyH_take (i := 15) (oi := ⟨_, _, _, _, _, _⟩) (v := ?_) rfl (by kernel_rfl) (by kernel_rfl) (by kernel_rfl) (fun _ _ _ h => h) (Or.inl ⟨by rfl, ?_⟩) (by assumption) ?_
          rotate_left
          · (intro w hSw; (try dsimp only at hSw); go_simp; (try with_reducible rfl))
          try simp only [Act.put, List.setIfInBounds_toArray, List.set_cons_zero, List.set_cons_succ]
          refine wpAnyH_take (i := 16) (oi := ⟨_, _, _, _, _, _⟩) (v := ?_) rfl (by kernel_rfl) (by kernel_rfl) (by kernel_rfl) (fun _ _ _ h => h) (Or.inl ⟨by rfl, ?_⟩) (by assumption) ?_
          rotate_left
          · (intro w hSw; (try dsimp only at hSw); go_simp; (try with_reducible rfl))
          try simp only [Act.put, List.setIfInBounds_toArray, List.set_cons_zero, List.set_cons_succ]
          refine wpAnyH_done (by kernel_rfl) ?_ _
          go_wp2
          go_ret
          exact ⟨rfl, HB5.out.trans (HB9.out.mono HB5.out.size)⟩
end Go.Proofs.YtgkdplooocbonaaGreatDoor
