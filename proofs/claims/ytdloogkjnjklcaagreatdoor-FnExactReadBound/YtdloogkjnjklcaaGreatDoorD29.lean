/- The program's lexer: all bytes fed, from whatever is held on; the mathematics of a memo. -/
import Derived.Test.YtdloogkjnjklcaaGreatDoorD23
import Derived.Test.YtdloogkjnjklcaaGreatDoorD28
set_option linter.unusedVariables false
set_option linter.unusedSimpArgs false
namespace Go.Proofs.YtdloogkjnjklcaaGreatDoor
open Go.RowKit

def FfP (h0 d : List Int) (w : World) (e : Ending) (w' : World) : Prop :=
  ∃ hv tv us rs bl bh lo g, e = .returned (.agg #[.int .i64 0, tv, hv]) ∧ w.heap.size ≤ lo ∧ LX lo g w' hv tv (allX [] h0 d).2 (allX [] h0 d).1 us rs bl bh ∧ Below w.heap.size w w'

theorem allX_from : ∀ (l : List Int) (ts : List TK) (hs : List Int), allX ts hs l = (ts ++ (allX [] hs l).1, (allX [] hs l).2)
  | [], ts, hs => by simp [allX]
  | x :: l, ts, hs => by
    have e : ∀ ts, allX ts hs (x :: l) = allX (ts ++ (feedX hs x.toNat).1) (feedX hs x.toNat).2 l := fun _ => rfl
    rw [e ts, e [], allX_from l (ts ++ _), allX_from l ([] ++ _)]
    simp

def ckAt (d : List Int) (s j : Nat) : CK := ⟨((j * s : Nat) : Int), ((allX [] [] (d.take (j * s))).1.length : Nat), (allX [] [] (d.take (j * s))).2⟩

def cksN (d : List Int) (s n : Nat) : List CK := (List.range n).map (ckAt d s)
theorem cksN_len (d : List Int) (s n : Nat) : (cksN d s n).length = n := by simp [cksN]
theorem cksN_at (d : List Int) (s n j : Nat) (h : j < n) : ckK (cksN d s n) j = ckAt d s j := by unfold ckK cksN; simp [h]

def memX (d : List Int) (s : Nat) : ME := ⟨d, (s : Int), (allX [] [] d).1, (allX [] [] d).2, cksN d s (d.length / s + 1)⟩

theorem allX_step (d : List Int) (s j : Nat) : allX [] [] (d.take ((j + 1) * s)) = ((allX [] [] (d.take (j * s))).1 ++ (allX [] (allX [] [] (d.take (j * s))).2 ((d.drop (j * s)).take s)).1, (allX [] (allX [] [] (d.take (j * s))).2 ((d.drop (j * s)).take s)).2) := by
  rw [show (j + 1) * s = j * s + s by rw [Nat.add_mul]; omega, List.take_add, allX_append, allX_from]

set_option maxRecDepth 100000 in
set_option maxHeartbeats 3200000 in
theorem feedFrom_any (tp : TypeId) (pv : Value) (h0 : List Int) (ah : Option Addr) (ch : Nat) (d : List Int) (ad : Option Addr) (cd : Nat) (w : World) (hE : Env w.heap.size tp pv w) (hh : BAt w ah h0) (hgd : GoodH h0) (hub : Byt h0) (hd : BAt w ad d) (hu : Byt d) (hl : d.length ≤ 240) :
    Calls Tryz.prog 50 #[.agg #[.slice ah h0.length ch], .slice ad d.length cd] w fun e w' => FfP h0 d w e w' := by
  obtain ⟨N0, x0, RR⟩ := boxesF w (.slice ah h0.length ch)
  have hgl := hgd.len
  have HH0 := Hid.mk' (hh.below N0)
  have HG0 := Hid.mk' hgd
  have HU0 := Hid.mk' hub
  have KF : Hid (∀ V : World, BAt V ah h0 → Calls Tryz.prog 77 #[.agg #[.slice ah h0.length ch]] V fun e w' => e = .returned (.int .i64 0) ∧ Below V.heap.size V w') := Hid.mk' (fun V hV => lexFault_any ah ch h0 V hV HG0.out)
  have KN : Hid (∀ V : World, BAt V ah h0 → Calls Tryz.prog 78 #[.agg #[.slice ah h0.length ch]] V fun e w' => ∃ g, e = .returned (.pointer (some ⟨g, 0, none⟩)) ∧ LXs V.heap.size g w' h0 [] ∧ Below V.heap.size V w') := Hid.mk' (fun V hV => newLexer_any ah ch h0 V hV (by omega))
  have HB := Hid.mk' N0
  have HD := Hid.mk' (hd.below N0)
  have HE := Hid.mk' (hE.keep N0)
  have HR := Hid.mk' RR
  clear N0 hd hE RR hh hgd hub
  generalize hW : (w.alloc (.cells #[.slice ah h0.length ch] 53)).alloc (.cells #[.int .i64 0, .slice none 0 0, .slice none 0 0] 55) = W at *
  have c6 : ¬ (240 : Int) < d.length := by omega
  go_enter Tryz.func50, Tryz.ntmps50
  go_wp2_with fail
  clear hW
  refine (KF.out _ HH0.out).mono ?_
  rintro e w1 ⟨rfl, hb1⟩
  have B1 := Hid.mk' (HB.out.trans (hb1.mono HB.out.size))
  have HH1 := Hid.mk' (HH0.out.below hb1)
  have R1 := Hid.mk' (rowB HR.out hb1)
  have D1 := Hid.mk' (HD.out.below hb1)
  have E1 := Hid.mk' (HE.out.keep (hb1.mono HB.out.size))
  have x1 := (hb1.cell (p := ⟨w.heap.size, 0, none⟩) (by have := HR.out.lt; show w.heap.size < _; omega)).trans x0
  clear hb1 x0 HR HD HE
  go_wp2_with fail
  refine (KN.out w1 HH1.out).mono ?_
  rintro e w2 ⟨g, rfl, hx, hb2⟩
  have B2 := Hid.mk' hb2
  have X2 := Hid.mk' hx
  have SB := B1.out.size
  clear hb2 x1 hx
  go_wp2
  go_loopw [24] (fun i wr => ∃ k : Nat, k ≤ d.length ∧ i = .int .i64 k ∧ LXs w1.heap.size g wr (allX [] h0 (d.take k)).2 (allX [] h0 (d.take k)).1 ∧ GoodH (allX [] h0 (d.take k)).2 ∧ Byt (allX [] h0 (d.take k)).2 ∧ (allX [] h0 (d.take k)).1.length ≤ 161 * k ∧ Below w1.heap.size w1 wr) (fun i _ => d.length - (intOf i).toNat)
  case atStart => exact ⟨0, Nat.zero_le _, rfl, X2.out, HG0.out, HU0.out, Nat.zero_le _, B2.out⟩
  case round =>
    obtain ⟨k, hk, rfl, hx, hg, hy, hn, hbl⟩ := hrel
    by_cases hlt : k < d.length
    · have ci : (k : Int) < (d.length : Int) := by omega
      rcases D1.out.below hbl with hd | ⟨a, o, rfl, hbs, hc⟩
      · exact absurd hlt (by rw [hd]; exact Nat.not_lt_zero _)
      obtain ⟨y0, y1⟩ := hu k hlt
      obtain ⟨y, hyy⟩ : ∃ y : Nat, d.getD k 0 = (y : Int) := ⟨(d.getD k 0).toNat, by omega⟩
      rw [hyy] at y1
      have hcell : wr.cell? ⟨a, o + k, none⟩ = some (.int .u8 y) := by rw [← hyy]; exact hc k hlt
      have ES : Hid (allX [] h0 (d.take (k + 1)) = ((allX [] h0 (d.take k)).1 ++ (feedX (allX [] h0 (d.take k)).2 y).1, (feedX (allX [] h0 (d.take k)).2 y).2)) := Hid.mk' (by
        rw [take_snoc_int hlt, allX_append, hyy]
        simp [allX])
      clear hc hyy y0
      generalize (allX [] h0 (d.take k)).1 = T at *
      generalize (allX [] h0 (d.take k)).2 = H at *
      have fl := feedX_len H y
      have gl := hg.len
      have G2 := Hid.mk' (feed_good y hg)
      have Y2 := Hid.mk' (feedX_byt (b := y) hy (by omega))
      have KS := Hid.mk' (lexState_any w1.heap.size g wr H T hx hy (by omega))
      have HY := Hid.mk' hy
      have BL := Hid.mk' hbl
      have KX : Hid (∀ w3 : World, LXs w1.heap.size g w3 H T → Below w1.heap.size wr w3 → Calls Tryz.prog (stN H) #[.pointer (some ⟨g, 0, none⟩), .int .u8 (y : Int)] w3 fun e w' => LxP w1.heap.size g (feedX H y).2 (T ++ (feedX H y).1) w3 e w') := Hid.mk' (fun w3 hx3 hb3 =>
        feed_any w1.heap.size w1.heap.size g tp pv y w3 H T hx3 ((E1.out.up SB (Nat.le_refl _)).keep (BL.out.trans hb3)) (Nat.le_refl _) HY.out (by omega) gl (by omega))
      clear hx hg hy hbl
      generalize (feedX H y).1 = FT at *
      generalize (feedX H y).2 = FH at *
      rcases stN_cases H with est | est | est | est
      all_goals
        rw [est] at KS KX
        clear est
        go_wp2_with fail
        refine KS.out.mono ?_
        rintro e w3 ⟨rfl, hx3, hb3⟩
        have KF2 := Hid.mk' (KX.out w3 hx3 hb3)
        have B3 := Hid.mk' (BL.out.trans hb3)
        clear hx3 hb3 KS KX
        go_wp2_with fail
        refine KF2.out.mono ?_
        rintro e w4 ⟨⟨v, rfl⟩, hx4, hb4⟩
        have X4 := Hid.mk' hx4
        have B4 := Hid.mk' (B3.out.trans hb4)
        clear hx4 hb4 KF2
        go_wp2
        go_roundw
        case rel => exact ⟨k + 1, by omega, by go_num, by rw [ES.out]; exact X4.out, by rw [ES.out]; exact G2.out, by rw [ES.out]; exact Y2.out, by rw [ES.out]; show (T ++ FT).length ≤ _; rw [List.length_append]; omega, B4.out⟩
        case measure => simp [intOf]; omega
    · have ci : ¬ (k : Int) < (d.length : Int) := by omega
      have e : k = d.length := by omega
      subst e
      rw [List.take_length] at hx
      obtain ⟨hv, tv, us, rs, bl, bh, h⟩ := hx
      have KR := Hid.mk' (result_any w1.heap.size g wr hv tv _ _ us rs bl bh h)
      have BL := Hid.mk' hbl
      obtain ⟨ha, hc, rfl, _⟩ := own_src h.held
      obtain ⟨ta, tc, rfl, _⟩ := own_src h.row
      clear hg hy hn hbl h
      go_wp2_with fail
      refine KR.out.mono ?_
      rintro e w3 ⟨rfl, hx3, hb3⟩
      have B3 := Hid.mk' (BL.out.trans (hb3.mono BL.out.size))
      have R3 := rowB R1.out B3.out
      obtain ⟨y0, y1, y2, y3⟩ := cells3 R3
      have f0 := R3.frozen 0
      have f1 := R3.frozen 1
      have f2 := R3.frozen 2
      have X3 := Hid.mk' hx3
      clear hx3 hb3 KR R3
      generalize hT : (allX [] h0 d).1 = T at *
      generalize hH : (allX [] h0 d).2 = H at *
      have HT := Hid.mk' hT
      have HH := Hid.mk' hH
      clear hT hH
      go_wp2
      refine bodyPost_ret (v := .agg #[.int .i64 0, .slice ta T.length tc, .slice ha H.length hc]) (by simp [results, Tryz.results50, go_sem, *]) rfl ?_
      have b1s := R1.out.lt
      refine ⟨_, _, us, rs, bl, bh, w1.heap.size, g, rfl, SB, ?_, three (B1.out.trans (B3.out.mono SB)) (by omega)⟩
      rw [HT.out, HH.out]
      exact X3.out.keep (by simp [World.setCell]) (fun k h1 h2 => by
        rw [Deep.blk_setCell_other _ _ _ _ (by show k ≠ w.heap.size + 1; omega), Deep.blk_setCell_other _ _ _ _ (by show k ≠ w.heap.size + 1; omega), Deep.blk_setCell_other _ _ _ _ (by show k ≠ w.heap.size + 1; omega)])

end Go.Proofs.YtdloogkjnjklcaaGreatDoor
