/- The program's lexer: all bytes fed. -/
import Derived.Test.YtgkdplooocbonaaGreatDoorXLxk
namespace Go.Proofs.YtgkdplooocbonaaGreatDoor
open Go.RowKit
set_option linter.unusedVariables false
set_option linter.unusedSimpArgs false

theorem LX.keep {lo g : Nat} {w w' : World} {hv tv : Value} {hs : List Int} {ts : List TK} {us : List Value} {rs : Nat → List Value} {bl bh : Nat → Nat} (h : LX lo g w hv tv hs ts us rs bl bh) (hs' : w.heap.size ≤ w'.heap.size) (hk : ∀ k, lo ≤ k → k < w.heap.size → w'.heap[k]? = w.heap[k]?) : LX lo g w' hv tv hs ts us rs bl bh :=
  ⟨h.box.of_block (hk g h.lg h.lt), own_of h.held (Nat.le_refl _) (fun k e hl => hk k hl (h.held.lt k e).2), own_of h.row (Nat.le_refl _) (fun k e hl => hk k hl (h.row.lt k e).2), (h.ta.keep (fun j hj k h1 h2 h3 => hk k (Nat.le_trans (h.ta.low j hj) h1) h3)).widen (Nat.le_refl _) hs', h.lg, h.gh, h.gt, h.ga, h.vt, h.vh, h.ap⟩

/-- What FeedAll leaves, from nothing held on. -/
def FaP (d : List Int) (w : World) (e : Ending) (w' : World) : Prop :=
  (240 < d.length ∧ e = .returned (.agg #[.int .i64 6, .slice none 0 0, .slice none 0 0]) ∧ Below w.heap.size w w') ∨
  (¬ 240 < d.length ∧ ∃ hv tv us rs bl bh lo g, e = .returned (.agg #[.int .i64 0, tv, hv]) ∧ w.heap.size ≤ lo ∧ LX lo g w' hv tv (allX [] [] d).2 (allX [] [] d).1 us rs bl bh ∧ Below w.heap.size w w')

theorem boxesF (w : World) (x : Value) :
    let W := (w.alloc (.cells #[x] 27)).alloc (.cells #[.int .i64 0, .slice none 0 0, .slice none 0 0] 29)
    Below w.heap.size w W ∧ W.cell? ⟨w.heap.size, 0, none⟩ = some x ∧ W.rowIs (w.heap.size + 1) 29 3 (r3 (.int .i64 0) (.slice none 0 0) (.slice none 0 0)) := by
  refine ⟨(below_new w _).alloc (by simp) _, ?_, ?_⟩
  · have h1 := cell_in w #[x] 27 (0, 0) 0
    have := (below_new (w.alloc (.cells #[x] 27)) (.cells #[.int .i64 0, .slice none 0 0, .slice none 0 0] 29)).cell (p := ⟨w.heap.size, 0, none⟩) (by simp)
    rw [this, h1]; rfl
  · have := row3 (w.alloc (.cells #[x] 27)) 29 (.int .i64 0) (.slice none 0 0) (.slice none 0 0)
    rw [show (w.alloc (.cells #[x] 27)).heap.size = w.heap.size + 1 by simp] at this
    exact this

theorem stN_cases (hs : List Int) : stN hs = 23 ∨ stN hs = 24 ∨ stN hs = 26 ∨ stN hs = 27 := by
  unfold stN
  split
  · exact .inl rfl
  · split
    · exact .inr (.inl rfl)
    · split
      · exact .inr (.inr (.inl rfl))
      · exact .inr (.inr (.inr rfl))

set_option maxRecDepth 100000 in
set_option maxHeartbeats 3200000 in
theorem feedAll_any (tp : TypeId) (pv : Value) (d : List Int) (ad : Option Addr) (cd : Nat) (w : World) (hE : Env w.heap.size tp pv w) (hd : BAt w ad d) (hu : Byt d) (hl : (d.length : Int) ≤ 9223372036854775807) :
    Calls Tryz.prog 7 #[.agg #[.slice none 0 0], .slice ad d.length cd] w fun e w' => FaP d w e w' := by
  obtain ⟨N0, x0, RR⟩ := boxesF w (.slice none 0 0)
  have KF : Hid (∀ V : World, Calls Tryz.prog 14 #[.agg #[.slice none 0 0]] V fun e w' => e = .returned (.int .i64 0) ∧ Below V.heap.size V w') := Hid.mk' (fun V => lexFault_any none 0 [] V (.inl rfl) (.inl rfl))
  have KN : Hid (∀ V : World, Calls Tryz.prog 15 #[.agg #[.slice none 0 0]] V fun e w' => ∃ g, e = .returned (.pointer (some ⟨g, 0, none⟩)) ∧ LXs V.heap.size g w' [] [] ∧ Below V.heap.size V w') := Hid.mk' (fun V => newLexer_any none 0 [] V (.inl rfl) (by simp))
  have HB := Hid.mk' N0
  have HD := Hid.mk' (hd.below N0)
  have HE := Hid.mk' (hE.keep N0)
  have HR := Hid.mk' RR
  clear N0 hd hE RR
  generalize hW : (w.alloc (.cells #[.slice none 0 0] 27)).alloc (.cells #[.int .i64 0, .slice none 0 0, .slice none 0 0] 29) = W at *
  by_cases h6 : 240 < d.length
  · have c6 : (240 : Int) < d.length := by omega
    go_enter Tryz.func7, Tryz.ntmps7
    go_wp2_with fail
    clear hW
    refine (KF.out _).mono ?_
    rintro e w1 ⟨rfl, hb1⟩
    have B1 := Hid.mk' (HB.out.trans (hb1.mono HB.out.size))
    have R1 := rowB HR.out hb1
    obtain ⟨y0, y1, y2, y3⟩ := cells3 R1
    have f0 := R1.frozen 0
    have f1 := R1.frozen 1
    have f2 := R1.frozen 2
    clear hb1 R1
    go_wp2
    refine bodyPost_ret (v := .agg #[.int .i64 6, .slice none 0 0, .slice none 0 0]) (by simp [results, Tryz.results7, go_sem, *]) rfl ?_
    exact .inl ⟨h6, rfl, three B1.out (by omega)⟩
  have c6 : ¬ (240 : Int) < d.length := by omega
  go_enter Tryz.func7, Tryz.ntmps7
  go_wp2_with fail
  clear hW
  refine (KF.out _).mono ?_
  rintro e w1 ⟨rfl, hb1⟩
  have B1 := Hid.mk' (HB.out.trans (hb1.mono HB.out.size))
  have R1 := Hid.mk' (rowB HR.out hb1)
  have D1 := Hid.mk' (HD.out.below hb1)
  have E1 := Hid.mk' (HE.out.keep (hb1.mono HB.out.size))
  have x1 := (hb1.cell (p := ⟨w.heap.size, 0, none⟩) (by have := HR.out.lt; show w.heap.size < _; omega)).trans x0
  clear hb1 x0 HR HD HE
  go_wp2_with fail
  refine (KN.out w1).mono ?_
  rintro e w2 ⟨g, rfl, hx, hb2⟩
  have B2 := Hid.mk' hb2
  have X2 := Hid.mk' hx
  have SB := B1.out.size
  clear hb2 x1 hx
  go_wp2
  go_loopw [24] (fun i wr => ∃ k : Nat, k ≤ d.length ∧ i = .int .i64 k ∧ LXs w1.heap.size g wr (allX [] [] (d.take k)).2 (allX [] [] (d.take k)).1 ∧ GoodH (allX [] [] (d.take k)).2 ∧ Byt (allX [] [] (d.take k)).2 ∧ (allX [] [] (d.take k)).1.length ≤ 161 * k ∧ Below w1.heap.size w1 wr) (fun i _ => d.length - (intOf i).toNat)
  case atStart => exact ⟨0, Nat.zero_le _, rfl, X2.out, .inl rfl, Byt.nil, Nat.zero_le _, B2.out⟩
  case round =>
    obtain ⟨k, hk, rfl, hx, hg, hy, hn, hbl⟩ := hrel
    by_cases hlt : k < d.length
    · have ci : (k : Int) < (d.length : Int) := by omega
      rcases D1.out.below hbl with hd | ⟨a, o, rfl, hbs, hc⟩
      · exact absurd hlt (by rw [hd]; exact Nat.not_lt_zero _)
      obtain ⟨y0, y1⟩ := hu k hlt
      obtain ⟨y, hyy⟩ : ∃ y : Nat, d.getD k 0 = (y : Int) := ⟨(d.getD k 0).toNat, by omega⟩
      rw [hyy] at y1
      have hcell : wr.cell? ⟨a, o + k, none⟩ = some (.int .u8 y) := by rw [← hyy]; exact hc k hlt
      have ES : Hid (allX [] [] (d.take (k + 1)) = ((allX [] [] (d.take k)).1 ++ (feedX (allX [] [] (d.take k)).2 y).1, (feedX (allX [] [] (d.take k)).2 y).2)) := Hid.mk' (by
        rw [take_snoc_int hlt, allX_append, hyy]
        simp [allX])
      clear hc hyy y0
      generalize (allX [] [] (d.take k)).1 = T at *
      generalize (allX [] [] (d.take k)).2 = H at *
      have fl := feedX_len H y
      have gl := hg.len
      have G2 := Hid.mk' (feed_good y hg)
      have Y2 := Hid.mk' (feedX_byt (b := y) hy (by omega))
      have KS := Hid.mk' (lexState_any w1.heap.size g wr H T hx hy (by omega))
      have HY := Hid.mk' hy
      have BL := Hid.mk' hbl
      have KX : Hid (∀ w3 : World, LXs w1.heap.size g w3 H T → Below w1.heap.size wr w3 → Calls Tryz.prog (stN H) #[.pointer (some ⟨g, 0, none⟩), .int .u8 (y : Int)] w3 fun e w' => LxP w1.heap.size g (feedX H y).2 (T ++ (feedX H y).1) w3 e w') := Hid.mk' (fun w3 hx3 hb3 =>
        feed_any w1.heap.size w1.heap.size g tp pv y w3 H T hx3 ((E1.out.up SB (Nat.le_refl _)).keep (BL.out.trans hb3)) (Nat.le_refl _) HY.out (by omega) gl (by omega))
      clear hx hg hy hbl
      generalize (feedX H y).1 = FT at *
      generalize (feedX H y).2 = FH at *
      rcases stN_cases H with est | est | est | est
      all_goals
        rw [est] at KS KX
        clear est
        go_wp2_with fail
        refine KS.out.mono ?_
        rintro e w3 ⟨rfl, hx3, hb3⟩
        have KF2 := Hid.mk' (KX.out w3 hx3 hb3)
        have B3 := Hid.mk' (BL.out.trans hb3)
        clear hx3 hb3 KS KX
        go_wp2_with fail
        refine KF2.out.mono ?_
        rintro e w4 ⟨⟨v, rfl⟩, hx4, hb4⟩
        have X4 := Hid.mk' hx4
        have B4 := Hid.mk' (B3.out.trans hb4)
        clear hx4 hb4 KF2
        go_wp2
        go_roundw
        case rel => exact ⟨k + 1, by omega, by go_num, by rw [ES.out]; exact X4.out, by rw [ES.out]; exact G2.out, by rw [ES.out]; exact Y2.out, by rw [ES.out]; show (T ++ FT).length ≤ _; rw [List.length_append]; omega, B4.out⟩
        case measure => simp [intOf]; omega
    · have ci : ¬ (k : Int) < (d.length : Int) := by omega
      have e : k = d.length := by omega
      subst e
      rw [List.take_length] at hx
      obtain ⟨hv, tv, us, rs, bl, bh, h⟩ := hx
      have KR := Hid.mk' (result_any w1.heap.size g wr hv tv _ _ us rs bl bh h)
      have BL := Hid.mk' hbl
      obtain ⟨ha, hc, rfl, _⟩ := own_src h.held
      obtain ⟨ta, tc, rfl, _⟩ := own_src h.row
      clear hg hy hn hbl h
      go_wp2_with fail
      refine KR.out.mono ?_
      rintro e w3 ⟨rfl, hx3, hb3⟩
      have B3 := Hid.mk' (BL.out.trans (hb3.mono BL.out.size))
      have R3 := rowB R1.out B3.out
      obtain ⟨y0, y1, y2, y3⟩ := cells3 R3
      have f0 := R3.frozen 0
      have f1 := R3.frozen 1
      have f2 := R3.frozen 2
      have X3 := Hid.mk' hx3
      clear hx3 hb3 KR R3
      generalize hT : (allX [] [] d).1 = T at *
      generalize hH : (allX [] [] d).2 = H at *
      have HT := Hid.mk' hT
      have HH := Hid.mk' hH
      clear hT hH
      go_wp2
      refine bodyPost_ret (v := .agg #[.int .i64 0, .slice ta T.length tc, .slice ha H.length hc]) (by simp [results, Tryz.results7, go_sem, *]) rfl ?_
      have b1s := R1.out.lt
      refine .inr ⟨h6, _, _, us, rs, bl, bh, w1.heap.size, g, rfl, SB, ?_, three (B1.out.trans (B3.out.mono SB)) (by omega)⟩
      rw [HT.out, HH.out]
      exact X3.out.keep (by simp [World.setCell]) (fun k h1 h2 => by
        rw [Deep.blk_setCell_other _ _ _ _ (by show k ≠ w.heap.size + 1; omega), Deep.blk_setCell_other _ _ _ _ (by show k ≠ w.heap.size + 1; omega), Deep.blk_setCell_other _ _ _ _ (by show k ≠ w.heap.size + 1; omega)])

end Go.Proofs.YtgkdplooocbonaaGreatDoor

/- The program's lexer: the rest let go; tokens put together. -/
namespace Go.Proofs.YtgkdplooocbonaaGreatDoor
open Go.RowKit
set_option linter.unusedVariables false
set_option linter.unusedSimpArgs false

theorem allX_good : ∀ (l : List Int) (ts : List TK) (hs : List Int), GoodH hs → GoodH (allX ts hs l).2
  | [], _, _, h => h
  | x :: l, ts, hs, h => allX_good l _ _ (feed_good _ h)

theorem allX_byt : ∀ (l : List Int) (ts : List TK) (hs : List Int), (∀ x ∈ l, 0 ≤ x ∧ x ≤ 255) → Byt hs → Byt (allX ts hs l).2
  | [], _, _, _, h => h
  | x :: l, ts, hs, hl, h => allX_byt l _ _ (fun y hy => hl y (List.mem_cons_of_mem _ hy)) (feedX_byt h (by have := hl x (List.mem_cons_self ..); omega))

theorem allX_len : ∀ (l : List Int) (ts : List TK) (hs : List Int), hs.length ≤ 160 → (allX ts hs l).1.length ≤ ts.length + 161 * l.length
  | [], ts, hs, _ => by simp [allX]
  | x :: l, ts, hs, h => by
    have ih := allX_len l (ts ++ (feedX hs x.toNat).1) (feedX hs x.toNat).2 (feedX_held hs x.toNat)
    have := feedX_len hs x.toNat
    have e : allX ts hs (x :: l) = allX (ts ++ (feedX hs x.toNat).1) (feedX hs x.toNat).2 l := rfl
    rw [e]
    rw [List.length_append] at ih
    rw [List.length_cons]
    omega

set_option maxRecDepth 100000 in
set_option maxHeartbeats 3200000 in
theorem finishLex_any (a : Option Addr) (c : Nat) (hs : List Int) (w : World) (ha : BAt w a hs) (hg : GoodH hs) (hu : Byt hs) :
    Calls Tryz.prog 8 #[.agg #[.slice a hs.length c]] w fun e w' => ∃ hv tv us rs bl bh lo g, e = .returned (.agg #[.int .i64 0, tv, hv]) ∧ w.heap.size ≤ lo ∧ LX lo g w' hv tv [] (bytesT hs) us rs bl bh ∧ Below w.heap.size w w' := by
  obtain ⟨N0, x0, RR⟩ := boxesF w (.slice a hs.length c)
  have gl := hg.len
  have KF := lexFault_any a c hs _ (ha.below N0) hg
  have KF := Hid.mk' KF
  have HB := Hid.mk' N0
  have HA := Hid.mk' (ha.below N0)
  have HR := Hid.mk' RR
  clear N0 ha RR
  generalize hW : (w.alloc (.cells #[.slice a hs.length c] 27)).alloc (.cells #[.int .i64 0, .slice none 0 0, .slice none 0 0] 29) = W at *
  go_enter Tryz.func8, Tryz.ntmps8
  go_wp2_with fail
  clear hW
  refine KF.out.mono ?_
  rintro e w1 ⟨rfl, hb1⟩
  have B1 := Hid.mk' (HB.out.trans (hb1.mono HB.out.size))
  have R1 := Hid.mk' (rowB HR.out hb1)
  have KN := Hid.mk' (newLexer_any a c hs w1 (HA.out.below hb1) (by omega))
  have x1 := (hb1.cell (p := ⟨w.heap.size, 0, none⟩) (by have := HR.out.lt; show w.heap.size < _; omega)).trans x0
  clear hb1 x0 HR HA KF
  go_wp2_with fail
  refine KN.out.mono ?_
  rintro e w2 ⟨g, rfl, hx, hb2⟩
  have B2 := Hid.mk' hb2
  have KG := Hid.mk' (letGo_any w1.heap.size g w2 hs [] hx hu (by simp; omega))
  have SB := B1.out.size
  clear hb2 x1 hx KN
  go_wp2_with fail
  refine KG.out.mono ?_
  rintro e w3 ⟨⟨v, rfl⟩, hx3, hb3⟩
  rw [List.nil_append] at hx3
  obtain ⟨hv, tv, us, rs, bl, bh, h⟩ := hx3
  have KR := Hid.mk' (result_any w1.heap.size g w3 hv tv _ _ us rs bl bh h)
  have BL := Hid.mk' (B2.out.trans hb3)
  obtain ⟨ha, hc, rfl, _⟩ := own_src h.held
  obtain ⟨ta, tc, rfl, _⟩ := own_src h.row
  clear hb3 h KG
  go_wp2_with fail
  refine KR.out.mono ?_
  rintro e w4 ⟨rfl, hx4, hb4⟩
  have B4 := Hid.mk' (BL.out.trans (hb4.mono BL.out.size))
  have R4 := rowB R1.out B4.out
  obtain ⟨y0, y1, y2, y3⟩ := cells3 R4
  have f0 := R4.frozen 0
  have f1 := R4.frozen 1
  have f2 := R4.frozen 2
  have X4 := Hid.mk' hx4
  clear hx4 hb4 KR R4
  generalize hT : bytesT hs = T at *
  have HT := Hid.mk' hT
  clear hT
  go_wp2
  refine bodyPost_ret (v := .agg #[.int .i64 0, .slice ta T.length tc, .slice ha ([] : List Int).length hc]) (by simp [results, Tryz.results8, go_sem, *]) rfl ?_
  have b1s := R1.out.lt
  refine ⟨_, _, us, rs, bl, bh, w1.heap.size, g, rfl, SB, ?_, three (B1.out.trans (B4.out.mono SB)) (by omega)⟩
  rw [HT.out]
  exact X4.out.keep (by simp [World.setCell]) (fun k h1 h2 => by
    rw [Deep.blk_setCell_other _ _ _ _ (by show k ≠ w.heap.size + 1; omega), Deep.blk_setCell_other _ _ _ _ (by show k ≠ w.heap.size + 1; omega), Deep.blk_setCell_other _ _ _ _ (by show k ≠ w.heap.size + 1; omega)])

/-- Tokens of one's own, as an answer has them. -/
structure TP (lo : Nat) (w : World) (tv : Value) (ts : List TK) (us : List Value) (rs : Nat → List Value) (bl bh : Nat → Nat) : Prop where
  row : w.ownsRow lo 33 5 tv ts.length (tcs ts us)
  ta : TA lo w.heap.size w ts us rs bl bh
  vt : ∀ j, j < ts.length → ∀ k, tv.ownBlock = some k → k < bl j ∨ bh j ≤ k

theorem LX.tp {lo g : Nat} {w : World} {hv tv : Value} {hs : List Int} {ts : List TK} {us : List Value} {rs : Nat → List Value} {bl bh : Nat → Nat} (h : LX lo g w hv tv hs ts us rs bl bh) : TP lo w tv ts us rs bl bh := ⟨h.row, h.ta, h.vt⟩

theorem TP.keep {lo : Nat} {w w' : World} {tv : Value} {ts : List TK} {us : List Value} {rs : Nat → List Value} {bl bh : Nat → Nat} (h : TP lo w tv ts us rs bl bh) (hs' : w.heap.size ≤ w'.heap.size) (hk : ∀ k, lo ≤ k → k < w.heap.size → w'.heap[k]? = w.heap[k]?) : TP lo w' tv ts us rs bl bh :=
  ⟨own_of h.row (Nat.le_refl _) (fun k e hl => hk k hl (h.row.lt k e).2), (h.ta.keep (fun j hj k h1 h2 h3 => hk k (Nat.le_trans (h.ta.low j hj) h1) h3)).widen (Nat.le_refl _) hs', h.vt⟩
theorem TP.below {lo : Nat} {w w' : World} {tv : Value} {ts : List TK} {us : List Value} {rs : Nat → List Value} {bl bh : Nat → Nat} (h : TP lo w tv ts us rs bl bh) (hb : Below w.heap.size w w') : TP lo w' tv ts us rs bl bh := h.keep hb.size (fun k _ hk => hb.block k hk)
theorem TP.down {lo lo' : Nat} {w : World} {tv : Value} {ts : List TK} {us : List Value} {rs : Nat → List Value} {bl bh : Nat → Nat} (h : TP lo w tv ts us rs bl bh) (hl : lo' ≤ lo) : TP lo' w tv ts us rs bl bh := ⟨own_down h.row hl, h.ta.widen hl (Nat.le_refl _), h.vt⟩

theorem TP.app {lo : Nat} {w w1 w2 : World} {tv tv' : Value} {ts ts1 : List TK} {us us1 : List Value} {rs rs1 : Nat → List Value} {bl bh bl1 bh1 : Nat → Nat} (h : TP lo w tv ts us rs bl bh) (hlo : lo ≤ w.heap.size) (h1 : Below w.heap.size w w1) (k : TA w.heap.size w1.heap.size w1 ts1 us1 rs1 bl1 bh1)
    (ho : w2.ownsRow lo 33 5 tv' (ts.length + ts1.length) (tcs ts us ++ tcs ts1 us1)) (hg : w1.grownBy w2 tv.ownBlock) (e : tv'.ownBlock = tv.ownBlock ∨ tv'.ownBlock = some w1.heap.size) :
    TP lo w2 tv' (ts ++ ts1) (us ++ us1) (thenN ts.length rs rs1) (thenN ts.length bl bl1) (thenN ts.length bh bh1) := by
  have s1 := h1.size
  have s2 := hg.size
  have told : ∀ x, tv.ownBlock = some x → lo ≤ x ∧ x < w.heap.size := fun x e => h.row.lt x e
  refine ⟨by rw [tcs_app _ _ _ _ h.ta.len, List.length_append]; exact ho, ?_, fun j hj x ex => ?_⟩
  · refine (TA.app (h.ta.keep (fun j hj x hx1 hx2 hx3 => ?_)) (k.keep (fun j hj x hx1 hx2 hx3 => ?_)) hlo s1).widen (Nat.le_refl _) s2
    · rw [hg.block x (by omega) (fun e2 => by have := h.vt j hj x e2.symm; omega), h1.block x hx3]
    · rw [hg.block x hx3 (fun e2 => by have := told x e2.symm; have := k.low j hj; omega)]
  · by_cases c : j < ts.length
    · rw [thenN_l c, thenN_l c]
      rcases e with e | e
      · exact h.vt j c x (e ▸ ex)
      · rw [e] at ex; cases ex; have := h.ta.top j c; omega
    · have hj' : j - ts.length < ts1.length := by rw [List.length_append] at hj; omega
      rw [thenN_r c, thenN_r c]
      rcases e with e | e
      · rw [e] at ex; have := told x ex; have := k.low _ hj'; omega
      · rw [e] at ex; cases ex; have := k.top _ hj'; omega

end Go.Proofs.YtgkdplooocbonaaGreatDoor

/- LexText: the program's side. -/
namespace Go.Proofs.YtgkdplooocbonaaGreatDoor
open Go.RowKit
set_option linter.unusedVariables false
set_option linter.unusedSimpArgs false

/-- What LexText leaves. -/
def LtP (d : List Int) (w : World) (e : Ending) (w' : World) : Prop :=
  (240 < d.length ∧ e = .returned (.agg #[.int .i64 6, .slice none 0 0, .slice none 0 0]) ∧ Below w.heap.size w w') ∨
  (¬ 240 < d.length ∧ ∃ tv us rs bl bh, e = .returned (.agg #[.int .i64 0, tv, .slice none 0 0]) ∧ TP w.heap.size w' tv (lexX d) us rs bl bh ∧ Below w.heap.size w w')

set_option maxRecDepth 100000 in
set_option maxHeartbeats 3200000 in
theorem implLT_any (tp : TypeId) (pv : Value) (d : List Int) (ad : Option Addr) (cd : Nat) (w : World) (hE : Env w.heap.size tp pv w) (hd : BAt w ad d) (hu : Byt d) (hl : (d.length : Int) ≤ 9223372036854775807) :
    Calls Tryz.prog 6 #[.slice ad d.length cd] w fun e w' => LtP d w e w' := by
  have N0 := below_new w (.cells #[.int .i64 0, .slice none 0 0, .slice none 0 0] 29)
  have HR := Hid.mk' (row3 w 29 (.int .i64 0) (.slice none 0 0) (.slice none 0 0))
  have KF := Hid.mk' (feedAll_any tp pv d ad cd _ ((hE.keep N0).up N0.size (Nat.le_refl _)) (hd.below N0) hu hl)
  have HB := Hid.mk' N0
  clear N0 hd hE
  generalize hW : w.alloc (.cells #[.int .i64 0, .slice none 0 0, .slice none 0 0] 29) = W at *
  go_enter Tryz.func6, Tryz.ntmps6
  go_wp2_with fail
  clear hW
  refine KF.out.mono ?_
  rintro e w1 (⟨h6, rfl, hb1⟩ | ⟨h6, hv, tv, us, rs, bl, bh, lo, g, rfl, hlo, hx, hb1⟩)
  · have N1 := below_new w1 (.cells #[.int .i64 6, .slice none 0 0, .slice none 0 0] 29)
    have M1 := hb1.trans (N1.mono hb1.size)
    have B1 := Hid.mk' (HB.out.trans (M1.mono HB.out.size))
    have BQ := Hid.mk' (HB.out.trans (hb1.mono HB.out.size))
    have R1 := rowB HR.out M1
    obtain ⟨y0, y1, y2, y3⟩ := cells3 R1
    have f0 := R1.frozen 0
    have f1 := R1.frozen 1
    have f2 := R1.frozen 2
    obtain ⟨z0, z1, z2, z3⟩ := cells3 (row3 w1 29 (.int .i64 6) (.slice none 0 0) (.slice none 0 0))
    clear hb1 R1 N1 M1 KF
    go_wp2
    refine bodyPost_ret (v := .agg #[.int .i64 6, .slice none 0 0, .slice none 0 0]) (by simp [results, Tryz.results6, go_sem, *]) rfl ?_
    exact .inl ⟨h6, rfl, three B1.out (Nat.le_refl _)⟩
  · have ug := Hid.mk' (allX_good d [] [] (.inl rfl))
    have ub := Hid.mk' (allX_byt d [] [] hu.mem Byt.nil)
    have ul : (allX [] [] d).1.length ≤ 161 * d.length := by simpa using allX_len d [] [] (by simp)
    have gl := ug.out.len
    obtain ⟨ha, hc, rfl, hbt⟩ := own_bat hx.held
    obtain ⟨ta, tc, rfl, _⟩ := own_src hx.row
    have N1 := below_new w1 (.cells #[.int .i64 0, .slice ta (allX [] [] d).1.length tc, .slice ha (allX [] [] d).2.length hc] 29)
    have M1 := hb1.trans (N1.mono hb1.size)
    have B1 := Hid.mk' (HB.out.trans (M1.mono HB.out.size))
    have R1 := Hid.mk' (rowB HR.out M1)
    have Z1 := row3 w1 29 (.int .i64 0) (.slice ta (allX [] [] d).1.length tc) (.slice ha (allX [] [] d).2.length hc)
    have ZZ := Hid.mk' Z1
    obtain ⟨z0, z1, z2, z3⟩ := cells3 Z1
    have TP1 := Hid.mk' (hx.tp.below N1)
    have KN := Hid.mk' (finishLex_any ha hc _ _ (hbt.below N1) ug.out ub.out)
    have LO := Hid.mk' hlo
    have LW := Hid.mk' (show lo ≤ w1.heap.size by have := hx.lg; have := hx.lt; omega)
    have SB := HB.out.size
    have S1 := hb1.size
    have EX : Hid (lexX d = (allX [] [] d).1 ++ bytesT (allX [] [] d).2) := Hid.mk' rfl
    clear hb1 N1 M1 KF hx hbt Z1 hlo ub ug
    generalize (allX [] [] d).1 = T at *
    generalize (allX [] [] d).2 = H at *
    generalize hV : w1.alloc (.cells #[.int .i64 0, .slice ta T.length tc, .slice ha H.length hc] 29) = V at *
    go_wp2_with fail
    clear hV
    refine KN.out.mono ?_
    rintro e w2 ⟨hv2, tv2, us2, rs2, bl2, bh2, lo2, g2, rfl, hlo2, hx2, hb2⟩
    obtain ⟨ha2, hc2, rfl, _⟩ := own_src hx2.held
    obtain ⟨ta2, tc2, rfl, _⟩ := own_src hx2.row
    have N2 := below_new w2 (.cells #[.int .i64 0, .slice ta2 (bytesT H).length tc2, .slice ha2 0 hc2] 29)
    have M2 := hb2.trans (N2.mono hb2.size)
    obtain ⟨_, _, e2, src2⟩ := own_src (own_keep hx2.row N2)
    cases e2
    have SRC := Hid.mk' src2
    have hlen : Hid ((tcs (bytesT H) us2).length = (bytesT H).length * 5) := Hid.mk' (tcs_len _ _ hx2.ta.len)
    have hone : Hid (∀ u ∈ tcs (bytesT H) us2, u.oneCell' = true) := Hid.mk' (tcs_one _ _ hx2.ta.one)
    have B2 := Hid.mk' (B1.out.trans (M2.mono B1.out.size))
    have R2 := Hid.mk' (rowB R1.out M2)
    obtain ⟨q0, q1, q2_, q3⟩ := cells3 (rowB ZZ.out M2)
    obtain ⟨s0, s1_, s2_, s3_⟩ := cells3 (row3 w2 29 (.int .i64 0) (.slice ta2 (bytesT H).length tc2) (.slice ha2 0 hc2))
    have TPX := Hid.mk' (TP1.out.below M2)
    have TV := Hid.mk' TP1.out
    have MM := Hid.mk' M2
    have TA2 := Hid.mk' ((hx2.ta.below N2).widen hlo2 N2.size)
    have hne : Hid (some w.heap.size ≠ (Value.slice ta T.length tc).ownBlock) := Hid.mk' (fun e => by have := (TP1.out.row.lt _ e.symm).1; have := LO.out; have := HR.out.lt; omega)
    have hlo3 : Hid (∀ k, (Value.slice ta T.length tc).ownBlock = some k → w.heap.size ≤ k) := Hid.mk' (fun k e => by have := (TP1.out.row.lt _ e).1; have := LO.out; omega)
    have bl2' : (bytesT H).length ≤ 160 := by rw [bytesT_len]; omega
    have SZ : Hid (lo ≤ (w2.alloc (.cells #[.int .i64 0, .slice ta2 (bytesT H).length tc2, .slice ha2 0 hc2] 29)).heap.size) := Hid.mk' (by have := LW.out; have := M2.size; have := z3; omega)
    have LWV : Hid (lo ≤ V.heap.size) := Hid.mk' (by have := LW.out; omega)
    clear hx2 hb2 N2 M2 src2 KN z0 z1 z2 z3 TP1 R1 B1 ZZ
    generalize hV2 : w2.alloc (.cells #[.int .i64 0, .slice ta2 (bytesT H).length tc2, .slice ha2 0 hc2] 29) = V2 at *
    go_wp2_with (first | (at_builtin; refine wpList_append_at _ rfl (.tmp 18) (.tmp 20) 25 rfl lo 33 (.agg #[.int .i64 0, .int .i64 0, .string ⟨#[]⟩, .slice none 0 0, .bool false]) 5 64 Tryz.underlying25 Tryz.infoTok rfl (by decide) _ _ _ rfl TPX.out.row _ _ _ (tcs (bytesT H) us2) rfl hlen.out SRC.out hone.out (by unfold maxLen; omega) (by omega) SZ.out ?_; intro v' w3 ho hgr hat; obtain ⟨a', c', rfl, _⟩ := own_src ho; have R3 := R2.out.of_block (hgr.block w.heap.size R2.out.lt hne.out); obtain ⟨y0, y1, y2, y3⟩ := cells3 R3; have f0 := R3.frozen 0; have f1 := R3.frozen 1; have f2 := R3.frozen 2; clear R3) | fail)
    have B3 := Hid.mk' (B2.out.grown hgr (by have := B2.out.size; omega) hlo3.out)
    have TP3 := Hid.mk' (TV.out.app LWV.out MM.out TA2.out ho hgr hat)
    clear ho hgr hat
    refine bodyPost_ret (v := .agg #[.int .i64 0, .slice a' (T.length + (bytesT H).length) c', .slice none 0 0]) (by simp [results, Tryz.results6, go_sem, *]) rfl ?_
    have LOV := LO.out
    have HRL := HR.out.lt
    have TPF := (TP3.out.keep (w' := ((w3.setCell ⟨w.heap.size, 0, none⟩ (.int .i64 0)).setCell ⟨w.heap.size, 1, none⟩ (.slice a' (T.length + (bytesT H).length) c')).setCell ⟨w.heap.size, 2, none⟩ (.slice none 0 0)) (by simp [World.setCell]) (fun k h1 h2 => by
      rw [Deep.blk_setCell_other _ _ _ _ (by show k ≠ w.heap.size; omega), Deep.blk_setCell_other _ _ _ _ (by show k ≠ w.heap.size; omega), Deep.blk_setCell_other _ _ _ _ (by show k ≠ w.heap.size; omega)])).down (show w.heap.size ≤ lo by omega)
    rw [← EX.out] at TPF
    exact .inr ⟨h6, _, _, _, _, _, rfl, TPF, three B3.out (Nat.le_refl _)⟩

end Go.Proofs.YtgkdplooocbonaaGreatDoor

/- LexText: the model's side. -/
namespace Go.Proofs.YtgkdplooocbonaaGreatDoor
open Go.RowKit
set_option linter.unusedVariables false
set_option linter.unusedSimpArgs false

/-- What the model's LexText leaves. -/
def LsP (d : List Int) (w : World) (e : Ending) (w' : World) : Prop :=
  (240 < d.length ∧ e = .returned (.agg #[.int .i64 6, .slice none 0 0, .slice none 0 0]) ∧ Below w.heap.size w w') ∨
  (¬ 240 < d.length ∧ ∃ tv us, e = .returned (.agg #[.int .i64 0, tv, .slice none 0 0]) ∧ TokS (w.heap.size + 1) w' tv (lexX d) us ∧ Below w.heap.size w w')

theorem TokS.keep {base : Nat} {w w' : World} {v : Value} {ts : List TK} {us : List Value} (h : TokS base w v ts us) (hs : w.heap.size ≤ w'.heap.size) (hk : ∀ k, base ≤ k → k < w.heap.size → w'.heap[k]? = w.heap[k]?) : TokS base w' v ts us :=
  ⟨h.len, own_of h.row (Nat.le_refl _) (fun k e hl => hk k hl (h.row.lt k e).2), h.one, fun i t u ht hu => by
    rcases h.all i t u ht hu with h | ⟨lo, w9, rs, h1, h2, h3, h4, h5⟩
    · exact .inl h
    · exact .inr ⟨lo, w9, rs, h1, h2, Nat.le_trans h3 hs, fun k a b => (hk k (by omega) (by omega)).trans (h4 k a b), h5⟩⟩

end Go.Proofs.YtgkdplooocbonaaGreatDoor

/- How much tokens hold: no more than the text that they were read from. -/
namespace Go.Proofs.YtgkdplooocbonaaGreatDoor
open Go.RowKit
set_option linter.unusedVariables false
set_option linter.unusedSimpArgs false

theorem tssz_app : ∀ (a b : List TK), tssz (a ++ b) = tssz a + tssz b
  | [], b => by simp [tssz]
  | x :: a, b => by simp [tssz, tssz_app a b]; omega

theorem tssz_bytes : ∀ (l : List Int), tssz (bytesT l) = 0
  | [] => rfl
  | x :: l => by
    have := tssz_bytes l
    unfold bytesT at this ⊢
    rw [List.map_cons]
    simp only [tssz, this]
    rfl

theorem asz_end : ∀ (l : List AT) (a : AT), asz (l ++ [a]) = asz l + (a.nm.size + a.vl.length)
  | [], a => by simp [asz]
  | b :: l, a => by simp [asz, asz_end l a]; omega

theorem attr_fits {L : List UInt8} {a : AT} {n : Nat} (h : attrA L = some (a, n)) : a.nm.size + a.vl.length + 1 ≤ n ∧ n ≤ L.length := by
  unfold attrA at h
  split at h
  · split at h
    · rename_i h1 h2
      injection h with h
      injection h with ha hn
      have e1 : a.nm.size = (L.take (spn pL L)).length := by rw [← ha]; simp [ByteArray.size]
      have e2 : a.vl.length ≤ ((L.drop (spn pL L + 2)).take (spn pQ (L.drop (spn pL L + 2)))).length := by rw [← ha]; exact Nat.le_trans (dec_len _ _) (Nat.le_refl _)
      rw [List.length_take] at e1 e2
      omega
    · cases h
  · cases h

theorem inside_fits : ∀ (f : Nat) (L : List UInt8) (acc l : List AT) (sh : Bool), insideA f L acc = some (l, sh) → l.length + asz l ≤ acc.length + asz acc + L.length
  | 0, L, acc, l, sh, h => by simp [insideA] at h
  | f + 1, L, acc, l, sh, h => by
    unfold insideA at h
    split at h
    · split at h
      · cases h; omega
      · cases h
    · split at h
      · split at h
        · cases h; omega
        · cases h
      · split at h
        · cases h
        · split at h
          · cases h
          · rename_i a n ha
            have h1 := attr_fits ha
            have h2 := inside_fits f _ _ l sh h
            rw [List.length_drop] at h1 h2
            have h3 : (addA acc a).length + asz (addA acc a) ≤ acc.length + asz acc + (a.nm.size + a.vl.length + 1) := by
              unfold addA
              split
              · omega
              · rw [asz_end]; simp; omega
            omega

theorem tag_fits {L : List UInt8} {t : TK} (h : tagA L = some t) : tsz t ≤ L.length := by
  unfold tagA at h
  split at h
  · split at h
    · split at h
      · cases h; simp [tsz, asz, ByteArray.size]
      · cases h
    · split at h
      · split at h
        · cases h; simp [tsz, asz, ByteArray.size]; omega
        · cases h
      · split at h
        · split at h
          · cases h
          · rename_i l sh hi
            cases h
            have := inside_fits _ _ _ l sh hi
            rw [List.length_drop] at this
            simp only [tsz, asz, ByteArray.size, List.size_toArray, List.length_take, List.length_drop, List.length_nil] at this ⊢
            omega
        · cases h
  · cases h

/-- What tokens weigh. -/
def wei (ts : List TK) : Nat := ts.length + tssz ts
theorem wei_app (a b : List TK) : wei (a ++ b) = wei a + wei b := by unfold wei; rw [List.length_append, tssz_app]; omega
theorem wei_bytes (l : List Int) : wei (bytesT l) = l.length := by unfold wei; rw [bytesT_len, tssz_bytes]; rfl

theorem len_fits (hs : List Int) (b : Nat) : wei (lenX hs b).1 + 2 * (lenX hs b).2.length ≤ 2 * hs.length + 2 := by
  unfold lenX
  split
  · show wei (bytesT _) + 2 * 0 ≤ _
    rw [wei_bytes]; simp; omega
  · show 0 + 2 * (hs ++ [(b : Int)]).length ≤ _
    simp; omega

theorem strU_len (l : List Int) : (strU l).length = l.length := by unfold strU; rw [len_list, strI_size]

theorem feed_fits (hs : List Int) (b : Nat) : wei (feedX hs b).1 + 2 * (feedX hs b).2.length ≤ 2 * hs.length + 2 := by
  unfold feedX
  split
  · show wei (bytesT (noneT (b : Int))) + 2 * (noneH (b : Int)).length ≤ _
    rw [wei_bytes]
    unfold noneT noneH
    split <;> simp <;> omega
  · split
    · show wei (bytesT (refT hs b)) + 2 * (refH hs b).length ≤ _
      rw [wei_bytes]
      unfold refT refH
      split
      · split
        · simp
        · simp; omega
      · split
        · split
          · simp; omega
          · simp; omega
        · unfold noneT noneH
          rw [List.length_append]
          split <;> simp <;> omega
    · unfold tagX
      split
      · split
        · rename_i t ht
          have := tag_fits ht
          rw [strU_len] at this
          show ([t].length + (tsz t + 0)) + 2 * 0 ≤ _
          simp at this ⊢
          omega
        · split
          · show wei (bytesT _) + 2 * 0 ≤ _
            rw [wei_bytes]; simp; omega
          · exact len_fits hs b
      · split
        · show wei (bytesT hs) + 2 * 1 ≤ _
          rw [wei_bytes]; omega
        · exact len_fits hs b

theorem all_fits : ∀ (l : List Int) (ts : List TK) (hs : List Int), wei (allX ts hs l).1 + 2 * (allX ts hs l).2.length ≤ wei ts + 2 * hs.length + 2 * l.length
  | [], ts, hs => by show wei ts + 2 * hs.length ≤ _; simp
  | x :: l, ts, hs => by
    have ih := all_fits l (ts ++ (feedX hs x.toNat).1) (feedX hs x.toNat).2
    have := feed_fits hs x.toNat
    rw [wei_app] at ih
    show wei (allX (ts ++ (feedX hs x.toNat).1) (feedX hs x.toNat).2 l).1 + 2 * (allX (ts ++ (feedX hs x.toNat).1) (feedX hs x.toNat).2 l).2.length ≤ _
    rw [List.length_cons]
    omega

theorem lex_fits (d : List Int) : wei (lexX d) ≤ 2 * d.length := by
  have := all_fits d [] []
  unfold lexX
  rw [wei_app, wei_bytes]
  have e : wei [] = 0 := rfl
  rw [e] at this
  simp at this
  omega

end Go.Proofs.YtgkdplooocbonaaGreatDoor
