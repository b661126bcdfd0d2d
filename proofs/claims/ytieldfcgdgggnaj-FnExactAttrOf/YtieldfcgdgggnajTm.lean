/- The walk of the law on AttrOf. -/
import Derived.Test.YtieldfcgdgggnajTl
namespace Go.Proofs.Ytieldfcgdgggnaj
open Go.RowKit
set_option linter.unusedVariables false
set_option linter.unusedSimpArgs false

/-- The model's answer of bytes, kept. -/
structure WantB (wa : World) (q : Nat) (c s : Value) (l : List Int) (wi : World) : Prop where
  old : Below wa.heap.size wa wi
  box : wi.rowIs q 42 2 (p2 c s)
  own : OB wi s l
  qlt : q < wa.heap.size
  ilt : In 0 wa.heap.size s

theorem WantB.below {wa wi wj : World} {q : Nat} {c s : Value} {l : List Int} (h : WantB wa q c s l wi) (hb : Below wi.heap.size wi wj) : WantB wa q c s l wj :=
  ⟨h.old.trans (hb.mono h.old.size), rowB h.box hb, h.own.below hb, h.qlt, h.ilt⟩

theorem WantB.kept {wa wi wj : World} {q lo hi : Nat} {c s : Value} {l : List Int} (h : WantB wa q c s l wi) (hk : KeptIn lo hi wi wj) (hlo : wa.heap.size ≤ lo) : WantB wa q c s l wj :=
  ⟨h.old.trans (hk.below hlo h.old.size), rowK h.box hk (.inl (Nat.lt_of_lt_of_le h.qlt hlo)), h.own.kept h.ilt hk (.inl hlo), h.qlt, h.ilt⟩

/-- The program's answer of bytes, kept. -/
structure GotB (lo hi q : Nat) (c u : Value) (l : List Int) (wi : World) : Prop where
  box : wi.rowIs q 42 2 (p2 c u)
  own : OB wi u l
  inn : In lo hi u
  hiq : hi ≤ q

theorem GotB.below {lo hi q : Nat} {c u : Value} {l : List Int} {wi wj : World} (h : GotB lo hi q c u l wi) (hb : Below wi.heap.size wi wj) : GotB lo hi q c u l wj := ⟨rowB h.box hb, h.own.below hb, h.inn, h.hiq⟩
theorem GotB.kept {lo hi q a b : Nat} {c u : Value} {l : List Int} {wi wj : World} (h : GotB lo hi q c u l wi) (hk : KeptIn a b wi wj) (hb : b ≤ lo) (hlh : lo ≤ hi) : GotB lo hi q c u l wj :=
  ⟨rowK h.box hk (.inr (by have := h.hiq; omega)), h.own.kept h.inn hk (.inr hb), h.inn, h.hiq⟩


/-- The law's own argument, in its box, kept. -/
structure HoldK (w : World) (t : TK) (a : Option Addr) (c : Nat) (wi : World) : Prop where
  old : Below w.heap.size w wi
  box : wi.rowIs w.heap.size 24 5 (r5 (.int .i64 t.kd) (.int .i64 t.by_) (.string t.nm) (.slice a t.at_.length c) (.bool t.sh))
  at_ : AAt wi a t.at_

theorem HoldK.below {w wi wj : World} {t : TK} {a : Option Addr} {c : Nat} (h : HoldK w t a c wi) (hb : Below wi.heap.size wi wj) : HoldK w t a c wj :=
  ⟨h.old.trans (hb.mono h.old.size), rowB h.box hb, h.at_.below hb⟩

theorem HoldK.kept {w wi wj : World} {t : TK} {a : Option Addr} {c lo hi : Nat} (h : HoldK w t a c wi) (h0 : AAt w a t.at_) (hk : KeptIn lo hi wi wj) (hlo : w.heap.size < lo) : HoldK w t a c wj :=
  ⟨h.old.trans (hk.below (by omega) h.old.size), rowK h.box hk (.inl hlo), h0.below (h.old.trans (hk.below (by omega) h.old.size))⟩

/-- A token of the law's own, in its box, kept. -/
structure GotK (lo hi q g : Nat) (t : TK) (wi : World) : Prop where
  box : wi.rowIs q 29 5 (r5 (.int .i64 t.kd) (.int .i64 t.by_) (.string t.nm) (.slice (some ⟨g, 0, none⟩) t.at_.length t.at_.length) (.bool t.sh))
  own : AO g t.at_ wi
  mr : MR g hi t.at_ wi
  log : lo ≤ g
  hiq : hi ≤ q

theorem GotK.below {lo hi q g : Nat} {t : TK} {wi wj : World} (h : GotK lo hi q g t wi) (hb : Below wi.heap.size wi wj) : GotK lo hi q g t wj :=
  ⟨rowB h.box hb, h.own.below hb, h.mr.below hb, h.log, h.hiq⟩

theorem aoVal_le (t : TK) (s : ByteArray) (hl : (t.at_.length : Int) + asz t.at_ ≤ 1048576) : ((aoVal t s).length : Int) ≤ 1048576 := by
  unfold aoVal
  split
  · split
    · rcases posK_lt t.at_ s with hp | ⟨k, hk, hp⟩
      · omega
      · rw [hp, Int.toNat_natCast]
        have := asz_take t.at_ k hk
        have := asz_le t.at_ (k + 1)
        omega
    · simp
  · simp

set_option maxRecDepth 100000 in
set_option maxHeartbeats 6000000 in
theorem lawAttrOf_any (t : TK) (a : Option Addr) (c : Nat) (s : ByteArray) (w : World) (ha : AAt w a t.at_) (hw : Wide t.at_) (hn : (t.nm.size : Int) ≤ 9223372036854775807) (hl : (t.at_.length : Int) ≤ 9223372036854775807) (hsz : (s.size : Int) ≤ 9223372036854775807) :
    Calls Try.prog 6 #[.agg #[.int .i64 t.kd, .int .i64 t.by_, .string t.nm, .slice a t.at_.length c, .bool t.sh], .string s] w fun e w' => e = .returned (.bool true) ∧ Below w.heap.size w w' := by
  have N0 := below_new w (.cells #[.int .i64 t.kd, .int .i64 t.by_, .string t.nm, .slice a t.at_.length c, .bool t.sh] 24)
  have KS := szToken_any t a c _ (ha.below N0) hw hn hl
  have HH : Hid (HoldK w t a c (w.alloc (.cells #[.int .i64 t.kd, .int .i64 t.by_, .string t.nm, .slice a t.at_.length c, .bool t.sh] 24))) := ⟨N0, row5 w 24 (.int .i64 t.kd) (.int .i64 t.by_) (.string t.nm) (.slice a t.at_.length c) (.bool t.sh), ha.below N0⟩
  have HT := Hid.mk' ha
  clear ha N0 hw hn hl
  by_cases hs0 : (s.size : Int) > 1048576
  · go_enter Try.func6, Try.ntmps6
    go_wp2
    go_ret
    exact ⟨rfl, HH.out.old⟩
  generalize hW : w.alloc (.cells #[.int .i64 t.kd, .int .i64 t.by_, .string t.nm, .slice a t.at_.length c, .bool t.sh] 24) = W at *
  obtain ⟨c0, c1, c2, c3, c4, c5⟩ := cells5 HH.out.box
  by_cases big : 1048576 < (t.nm.size : Int) + t.at_.length + asz t.at_
  · rw [if_pos big] at KS
    have KS := Hid.mk' KS
    go_enter Try.func6, Try.ntmps6
    go_wp2_with fail
    refine KS.out.mono ?_
    rintro e w1 ⟨rfl, hb⟩
    have HH := Hid.mk' (HH.out.below hb)
    clear hb KS
    go_wp2
    go_ret
    exact ⟨rfl, HH.out.old⟩
  rw [if_neg big] at KS
  have KS := Hid.mk' KS
  have zz : ¬ (1048576 - (t.nm.size : Int) - t.at_.length - asz t.at_ < 0) := by omega
  have hl : (t.at_.length : Int) + asz t.at_ ≤ 1048576 := by omega
  have hn : (t.nm.size : Int) ≤ 1048576 := by omega
  have n3 := aoVal_le t s hl
  have n4 := vsz_le t.at_ t.at_.length
  rw [List.take_length] at n4
  go_enter Try.func6, Try.ntmps6
  go_wp2_with fail
  clear hW
  refine KS.out.mono ?_
  rintro e w1 ⟨rfl, hb⟩
  have H1 := Hid.mk' (HH.out.below hb)
  clear hb KS HH c0 c1 c2 c3 c4 c5 big
  obtain ⟨c0, c1, c2, c3, c4, c5⟩ := cells5 H1.out.box
  go_wp2_with fail
  clear zz
  refine (toToken_any t a c w1 H1.out.at_ hl).mono ?_
  rintro e w2 ⟨g1, rfl, _, ho1, hb⟩
  have H2 := Hid.mk' (H1.out.below hb)
  have O1 := Hid.mk' ho1
  clear hb ho1 H1 c0 c1 c2 c3 c4 c5
  go_wp2_with fail
  refine (specAO_any t s (some ⟨g1, 0, none⟩) t.at_.length w2 O1.out.at (Nat.le_refl _) hn hl).mono ?_
  rintro e w3 ⟨sv, rfl, o3, i3, hb3⟩
  have N3 := below_new w3 (.cells #[.int .i64 (aoCode t s), sv] 42)
  have H3 := Hid.mk' ((H2.out.below hb3).below N3)
  have W3 : Hid (WantB (w3.alloc (.cells #[.int .i64 (aoCode t s), sv] 42)) w3.heap.size (.int .i64 (aoCode t s)) sv (aoVal t s) (w3.alloc (.cells #[.int .i64 (aoCode t s), sv] 42))) :=
    ⟨Below.refl _ _, rowp2 w3 42 _ _, o3.below N3, by simp, i3.mono (Nat.zero_le _) (by simp)⟩
  obtain ⟨sa, sc, rfl, _⟩ := o3.len
  clear H2 hb3 O1 N3 o3 i3
  generalize hwa : w3.alloc (.cells #[.int .i64 (aoCode t s), .slice sa (aoVal t s).length sc] 42) = wa at *
  obtain ⟨c0, c1, c2, c3, c4, c5⟩ := cells5 H3.out.box
  have hwlt := c5
  go_wp2_with fail
  clear hwa
  refine (toToken_any t a c wa H3.out.at_ hl).mono ?_
  rintro e w4 ⟨g2, rfl, hg2, ho2, hb4⟩
  have hx4 := hb4.size
  have N4 := below_new w4 (.cells #[.int .i64 t.kd, .int .i64 t.by_, .string t.nm, .slice (some ⟨g2, 0, none⟩) t.at_.length t.at_.length, .bool t.sh] 29)
  have H4 := Hid.mk' ((H3.out.below hb4).below N4)
  have W4 := Hid.mk' ((W3.out.below hb4).below N4)
  have X4 : Hid (GotK wa.heap.size w4.heap.size w4.heap.size g2 t (w4.alloc (.cells #[.int .i64 t.kd, .int .i64 t.by_, .string t.nm, .slice (some ⟨g2, 0, none⟩) t.at_.length t.at_.length, .bool t.sh] 29))) := ⟨row5 w4 29 (.int .i64 t.kd) (.int .i64 t.by_) (.string t.nm) (.slice (some ⟨g2, 0, none⟩) t.at_.length t.at_.length) (.bool t.sh), ho2.below N4, ho2.mr.below N4, hg2, Nat.le_refl _⟩
  clear H3 W3 hb4 ho2 hg2 c0 c1 c2 c3 c4 c5
  have z4 : (w4.alloc (.cells #[.int .i64 t.kd, .int .i64 t.by_, .string t.nm, .slice (some ⟨g2, 0, none⟩) t.at_.length t.at_.length, .bool t.sh] 29)).heap.size = w4.heap.size + 1 := by simp
  generalize hwb : w4.alloc (.cells #[.int .i64 t.kd, .int .i64 t.by_, .string t.nm, .slice (some ⟨g2, 0, none⟩) t.at_.length t.at_.length, .bool t.sh] 29) = wb at *
  obtain ⟨d0, d1, d2, d3, d4, d5⟩ := cells5 X4.out.box
  go_wp2_with fail
  clear hwb N4
  refine (implAO_any t s (some ⟨g2, 0, none⟩) t.at_.length wb X4.out.own.at hn hl).mono ?_
  rintro e w5 ⟨u, rfl, o5, i5, hb5⟩
  have hx5 := hb5.size
  have N5 := below_new w5 (.cells #[.int .i64 (aoCode t s), u] 42)
  have H5 := Hid.mk' ((H4.out.below hb5).below N5)
  have W5 := Hid.mk' ((W4.out.below hb5).below N5)
  have X5 := Hid.mk' ((X4.out.below hb5).below N5)
  have G5 : Hid (GotB wb.heap.size w5.heap.size w5.heap.size (.int .i64 (aoCode t s)) u (aoVal t s) (w5.alloc (.cells #[.int .i64 (aoCode t s), u] 42))) := ⟨rowp2 w5 42 _ _, o5.below N5, i5, Nat.le_refl _⟩
  obtain ⟨ua, uc, rfl, _⟩ := o5.len
  clear H4 W4 X4 hb5 o5 i5 N5 d0 d1 d2 d3 d4 d5
  generalize hwc : w5.alloc (.cells #[.int .i64 (aoCode t s), .slice ua (aoVal t s).length uc] 42) = wc at *
  obtain ⟨z0, z1, z2⟩ := cells2 W5.out.box
  obtain ⟨q0, q1, q2⟩ := cells2 G5.out.box
  go_wp2_with fail
  clear hwc
  refine (eqBR_any _ _ _ (aoVal t s) wc G5.out.own.len W5.out.own.len n3).mono ?_
  rintro e w6 ⟨rfl, hb6⟩
  have H6 := Hid.mk' (H5.out.below hb6)
  have W6 := Hid.mk' (W5.out.below hb6)
  have X6 := Hid.mk' (X5.out.below hb6)
  have G6 := Hid.mk' (G5.out.below hb6)
  clear H5 W5 X5 G5 hb6 z0 z1 z2 q0 q1 q2
  obtain ⟨c0, c1, c2, c3, c4, c5⟩ := cells5 H6.out.box
  obtain ⟨d0, d1, d2, d3, d4, d5⟩ := cells5 X6.out.box
  go_wp2_with fail
  refine wp_region_held_drew (S := (fun w' => w'.cell? ⟨w4.heap.size, 0, none⟩ = some (.int .i64 t.kd) ∧ w'.cell? ⟨w4.heap.size, 1, none⟩ = some (.int .i64 t.by_) ∧ w'.cell? ⟨w4.heap.size, 2, none⟩ = some (.string t.nm) ∧ w'.cell? ⟨w4.heap.size, 3, none⟩ = some (.slice (some ⟨g2, 0, none⟩) t.at_.length t.at_.length) ∧ w'.cell? ⟨w4.heap.size, 4, none⟩ = some (.bool t.sh) ∧ w'.cell? ⟨w.heap.size, 0, none⟩ = some (.int .i64 t.kd) ∧ w'.cell? ⟨w.heap.size, 1, none⟩ = some (.int .i64 t.by_) ∧ w'.cell? ⟨w.heap.size, 2, none⟩ = some (.string t.nm) ∧ w'.cell? ⟨w.heap.size, 3, none⟩ = some (.slice a t.at_.length c) ∧ w'.cell? ⟨w.heap.size, 4, none⟩ = some (.bool t.sh))) (by kernel_rfl) (by simp [*]) (fun hHeld => ?_)
  refine wpAnyH_take (i := 0) (oi := ⟨_, _, _, _, _, _⟩) (v := ?_) rfl (by kernel_rfl) (by kernel_rfl) (by kernel_rfl) (fun _ _ _ h => h) (Or.inl ⟨by rfl, ?_⟩) (by assumption) ?_
  rotate_left
  · (intro w hSw; (try dsimp only at hSw); go_simp; (try with_reducible rfl))
  try simp only [Act.put, List.setIfInBounds_toArray, List.set_cons_zero, List.set_cons_succ]
  refine wpAnyH_take (i := 1) (oi := ⟨_, _, _, _, _, _⟩) (v := ?_) rfl (by kernel_rfl) (by kernel_rfl) (by kernel_rfl) (fun _ _ _ h => h) (Or.inl ⟨by rfl, ?_⟩) (by assumption) ?_
  rotate_left
  · (intro w hSw; (try dsimp only at hSw); go_simp; (try with_reducible rfl))
  try simp only [Act.put, List.setIfInBounds_toArray, List.set_cons_zero, List.set_cons_succ]
  refine wpAnyH_ready (rs := [2]) (by kernel_rfl) (by simp) ?_
  refine AllReadyH.cons (o := ⟨_, _, _, _, _, _⟩) rfl (fun K hK => ?_) AllReadyH.nil
  go_simp
  go_at_call 9; refine (toToken_any t a c w6.drew (H6.out.at_.below (Below.refl _ _).drew) hl).mono ?_; rintro e w7 ⟨g3, rfl, _, ho3, hb⟩; have O3 := Hid.mk' ho3; replace hb := undrew hb; clear ho3; obtain ⟨hx, hy⟩ := bcell hb; have H6 := Hid.mk' (H6.out.below hb); have W6 := Hid.mk' (W6.out.below hb); have X6 := Hid.mk' (X6.out.below hb); have G6 := Hid.mk' (G6.out.below hb); have d5 := X6.out.box.lt; have c5 := H6.out.box.lt; clear hb
  refine hK.out _ _ (by (try dsimp only); simp [*]) (fun hHeld => ?_)
  clear hK K
  try clear hx hy
  try simp only [Act.put, List.setIfInBounds_toArray, List.set_cons_zero, List.set_cons_succ]
  refine wpAnyH_ready (rs := [3]) (by kernel_rfl) (by simp) ?_
  refine AllReadyH.cons (o := ⟨_, _, _, _, _, _⟩) rfl (fun K hK => ?_) AllReadyH.nil
  go_simp
  go_at_call 11; refine (eqToken_any t (some ⟨g2, 0, none⟩) (some ⟨g3, 0, none⟩) t.at_.length t.at_.length w7 X6.out.own.at O3.out.at hl).mono ?_; rintro e w8 ⟨rfl, hb⟩; obtain ⟨hx, hy⟩ := bcell hb; have H6 := Hid.mk' (H6.out.below hb); have W6 := Hid.mk' (W6.out.below hb); have X6 := Hid.mk' (X6.out.below hb); have G6 := Hid.mk' (G6.out.below hb); have d5 := X6.out.box.lt; have c5 := H6.out.box.lt; clear hb
  refine hK.out _ _ (by (try dsimp only); simp [*]) (fun hHeld => ?_)
  clear hK K
  try clear hx hy
  try simp only [Act.put, List.setIfInBounds_toArray, List.set_cons_zero, List.set_cons_succ]
  refine wpAnyH_take (i := 4) (oi := ⟨_, _, _, _, _, _⟩) (v := ?_) rfl (by kernel_rfl) (by kernel_rfl) (by kernel_rfl) (fun _ _ _ h => h) (Or.inl ⟨by rfl, ?_⟩) (by assumption) ?_
  rotate_left
  · (intro w hSw; (try dsimp only at hSw); go_simp; (try with_reducible rfl))
  try simp only [Act.put, List.setIfInBounds_toArray, List.set_cons_zero, List.set_cons_succ]
  refine wpAnyH_done (by kernel_rfl) ?_ _
  clear c0 c1 c2 c3 c4 c5 d0 d1 d2 d3 d4 d5 hHeld
  obtain ⟨d0, d1, d2, d3, d4, d5⟩ := cells5 X6.out.box
  go_wp2_with fail
  refine (markToken_any t g2 w4.heap.size t.at_.length w8 X6.out.mr (by have := X6.out.box.lt; omega) hl).mono ?_
  rintro e w9 ⟨rfl, hk9⟩
  have hlog := X6.out.log
  have H9 := Hid.mk' (H6.out.kept HT.out hk9 (by omega))
  have W9 := Hid.mk' (W6.out.kept hk9 hlog)
  have G9 := Hid.mk' (G6.out.kept hk9 (by omega) hx5)
  obtain ⟨z0, z1, z2⟩ := cells2 W9.out.box
  obtain ⟨q0, q1, q2⟩ := cells2 G9.out.box
  have kz : ¬ (1 + (t.at_.length : Int) + (vsz t.at_ : Int) < 0) := by omega
  clear H6 W6 X6 G6 hk9 d0 d1 d2 d3 d4 d5
  go_wp2_with fail
  refine (eqBR_any _ _ _ (aoVal t s) w9 G9.out.own.len W9.out.own.len n3).mono ?_
  rintro e w10 ⟨rfl, hb10⟩
  have H10 := Hid.mk' (H9.out.below hb10)
  have W10 := Hid.mk' (W9.out.below hb10)
  have G10 := Hid.mk' (G9.out.below hb10)
  clear H9 W9 G9 hb10 z0 z1 z2 q0 q1 q2
  obtain ⟨q0, q1, q2⟩ := cells2 G10.out.box
  go_wp2_with fail
  refine (markBR_any _ _ (aoVal t s) w10 G10.out.own n3).mono ?_
  rintro e w11 ⟨rfl, o11, wm, hbm, htm⟩
  have hkm := htm.kept G10.out.inn
  have H11 := Hid.mk' ((H10.out.below hbm).kept HT.out hkm (by omega))
  have W11 := Hid.mk' ((W10.out.below hbm).kept hkm (by omega))
  have G11 : Hid (GotB wb.heap.size w5.heap.size w5.heap.size _ _ (mb 1 (aoVal t s).length) w11) := ⟨rowK (rowB G10.out.box hbm) hkm (.inr (Nat.le_refl _)), o11, G10.out.inn, Nat.le_refl _⟩
  clear H10 W10 G10 hbm htm hkm o11 q0 q1 q2
  obtain ⟨q0, q1, q2⟩ := cells2 G11.out.box
  go_wp2_with fail
  have L11 : Hid (∃ a d, Value.slice ua (aoVal t s).length uc = .slice a (aoVal t s).length d ∧ BAt w11 a (mb 1 (aoVal t s).length)) := by
    obtain ⟨a, d, e, hb⟩ := G11.out.own.len
    rw [mb_len] at e
    exact ⟨a, d, e, hb⟩
  refine (heldBR_any _ _ (aoVal t s).length w11 L11.out n3).mono ?_
  rintro e w12 ⟨rfl, hb12⟩
  have H12 := Hid.mk' (H11.out.below hb12)
  have W12 := Hid.mk' (W11.out.below hb12)
  have G12 := Hid.mk' (G11.out.below hb12)
  clear H11 W11 G11 L11 hb12 q0 q1 q2
  obtain ⟨c0, c1, c2, c3, c4, c5⟩ := cells5 H12.out.box
  go_wp2_with fail
  refine (toToken_any t a c w12 H12.out.at_ hl).mono ?_
  rintro e w13 ⟨g3, rfl, _, ho13, hb13⟩
  have H13 := Hid.mk' (H12.out.below hb13)
  have W13 := Hid.mk' (W12.out.below hb13)
  have G13 := Hid.mk' (G12.out.below hb13)
  have O13 := Hid.mk' ho13
  clear H12 W12 G12 hb13 ho13 c0 c1 c2 c3 c4 c5
  go_wp2_with fail
  refine (implAO_any t s (some ⟨g3, 0, none⟩) t.at_.length w13 O13.out.at hn hl).mono ?_
  rintro e w14 ⟨h, rfl, o14, i14, hb14⟩
  have N14 := below_new w14 (.cells #[.int .i64 (aoCode t s), h] 42)
  have H14 := Hid.mk' ((H13.out.below hb14).below N14)
  have W14 := Hid.mk' ((W13.out.below hb14).below N14)
  have G14 := Hid.mk' ((G13.out.below hb14).below N14)
  have O14 := Hid.mk' (o14.below N14)
  have Y14 := Hid.mk' (rowp2 w14 42 (.int .i64 (aoCode t s)) h)
  obtain ⟨ha, hc, rfl, _⟩ := o14.len
  clear H13 W13 G13 O13 hb14 o14 i14 N14
  generalize hwd : w14.alloc (.cells #[.int .i64 (aoCode t s), .slice ha (aoVal t s).length hc] 42) = wd at *
  obtain ⟨z0, z1, z2⟩ := cells2 W14.out.box
  obtain ⟨q0, q1, q2⟩ := cells2 Y14.out
  go_wp2_with fail
  clear hwd
  refine (eqBR_any _ _ _ (aoVal t s) wd O14.out.len W14.out.own.len n3).mono ?_
  rintro e w15 ⟨rfl, hb15⟩
  have H15 := Hid.mk' (H14.out.below hb15)
  have G15 := Hid.mk' (G14.out.below hb15)
  clear H14 W14 G14 O14 Y14 hb15 z0 z1 z2 q0 q1 q2
  obtain ⟨q0, q1, q2⟩ := cells2 G15.out.box
  go_wp2_with fail
  have L15 : Hid (∃ a d, Value.slice ua (aoVal t s).length uc = .slice a (aoVal t s).length d ∧ BAt w15 a (mb 1 (aoVal t s).length)) := by
    obtain ⟨a, d, e, hb⟩ := G15.out.own.len
    rw [mb_len] at e
    exact ⟨a, d, e, hb⟩
  refine (heldBR_any _ _ (aoVal t s).length w15 L15.out n3).mono ?_
  rintro e w16 ⟨rfl, hb16⟩
  have H16 := Hid.mk' (H15.out.below hb16)
  clear H15 G15 L15 hb16 q0 q1 q2
  go_wp2
  go_ret
  exact ⟨rfl, H16.out.old⟩

end Go.Proofs.Ytieldfcgdgggnaj
