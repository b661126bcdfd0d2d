/- The law on PutAll. -/
import Derived.Test.YtpncbcmngfpkfaaGreatU14
namespace Go.Proofs.YtpncbcmngfpkfaaGreat
open Go.RowKit
set_option linter.unusedVariables false
set_option linter.unusedSimpArgs false

theorem pallR_le (s : BS) (l : List TK) (hl : (s.nd.length : Int) + nssz s.nd + s.op.length ≤ 1048576) (ht : (l.length : Int) + tssz l ≤ 1048576 - (s.nd.length : Int) - nssz s.nd - s.op.length) : ((pallR s l).nd.length : Int) + nssz (pallR s l).nd + (pallR s l).op.length ≤ 2000000 ∧ ((pallR s l).op.length : Int) ≤ 1048576 := by
  by_cases h0 : pallC s l = 0
  · rw [pallR_good h0]
    rcases pall_cases s l with ⟨h1, h2, _⟩ | ⟨_, _, h2, _⟩ | ⟨h1, h4, _⟩
    · exact absurd (h2.symm.trans h0) h1
    · rw [h2] at h0; exact absurd h0 (by decide)
    · have g := (gs_fold (gs_of h1) l).o
      have n := nS_fold l s
      unfold nS at n
      omega
  · rw [pallR_bad h0]; simp [noS, nssz]

/-- The arguments of a law on a state and tokens, the state in its box. -/
structure HQ (b : Nat) (s : BS) (l : List TK) (a p : Option Addr) (c d : Nat) (q : Option Addr) (wi : World) : Prop where
  bx : wi.rowIs b 25 3 (r3 (.slice a s.nd.length c) (.slice p s.op.length d) (.bool s.lg))
  sx : SAt wi a p s
  st : TsAt wi q l

theorem HQ.below {b : Nat} {s : BS} {l : List TK} {a p : Option Addr} {c d : Nat} {q : Option Addr} {wi wj : World} (h : HQ b s l a p c d q wi) (hb : Below wi.heap.size wi wj) : HQ b s l a p c d q wj := ⟨rowB h.bx hb, h.sx.below hb, h.st.below hb⟩

theorem TW.below {w wr w1 : World} {l : List TK} {k : Nat} (h : TW w l k wr) (hb : Below wr.heap.size wr w1) : TW w l k w1 := by
  obtain ⟨f, s, hf, h0, h1, h2, hj⟩ := h.row
  refine ⟨h.bl.trans (hb.mono h.bl.size), f, s, rowB hf hb, h0, Nat.le_trans h1 hb.size, h2, fun j hk => ?_⟩
  obtain ⟨e1, e2, e3, ⟨g', e4, e5, e6⟩, e7⟩ := hj j hk
  exact ⟨e1, e2, e3, ⟨g', e4, e5, e6.below hb⟩, e7⟩

set_option maxRecDepth 100000 in
set_option maxHeartbeats 12000000 in
theorem lawPA_any (s : BS) (a p : Option Addr) (c d : Nat) (q : Option Addr) (c' : Nat) (l : List TK) (w : World) (ha : SAt w a p s) (wa : WideN s.nd) (na : (s.nd.length : Int) ≤ 9223372036854775807) (ma : (s.op.length : Int) ≤ 9223372036854775807) (ht : TsAt w q l) (wt : WideT l) (nt : (l.length : Int) ≤ 9223372036854775807) :
    Calls Tryz.prog 4 #[.agg #[.slice a s.nd.length c, .slice p s.op.length d, .bool s.lg], .slice q l.length c'] w fun e w' => e = .returned (.bool true) ∧ Below w.heap.size w w' := by
  have B0 := below_new w (.cells #[.slice a s.nd.length c, .slice p s.op.length d, .bool s.lg] 25)
  have H0 : HQ w.heap.size s l a p c d q _ := ⟨row3 w 25 (.slice a s.nd.length c) (.slice p s.op.length d) (.bool s.lg), ha.below B0, ht.below B0⟩
  have KS := szBuild_any s a p c d 1048576 _ (ha.below B0).1 wa na ma (by omega) (by omega)
  have HH := Hid.mk' H0
  have HB := Hid.mk' B0
  have WT := Hid.mk' wt
  clear B0 ha ht H0 wa wt
  by_cases g1 : 1048576 < (s.nd.length : Int) + nssz s.nd + s.op.length
  · rw [if_pos g1] at KS
    have KS := Hid.mk' KS
    generalize hW : w.alloc (.cells #[.slice a s.nd.length c, .slice p s.op.length d, .bool s.lg] 25) = W at *
    obtain ⟨x0, x1, x2, x3⟩ := cells3 HH.out.bx
    go_enter Tryz.func4, Tryz.ntmps4
    go_wp2_with fail
    clear hW
    refine KS.out.mono ?_
    rintro e w1 ⟨rfl, hb1⟩
    have HB := Hid.mk' (HB.out.trans (hb1.mono HB.out.size))
    clear hb1 KS
    go_wp2
    go_ret
    exact ⟨rfl, HB.out⟩
  rw [if_neg g1] at KS
  have KS := Hid.mk' KS
  have zz : ¬ (1048576 - (s.nd.length : Int) - nssz s.nd - s.op.length < 0) := by omega
  have hl : (s.nd.length : Int) + nssz s.nd + s.op.length ≤ 1048576 := by omega
  clear g1
  generalize hW : w.alloc (.cells #[.slice a s.nd.length c, .slice p s.op.length d, .bool s.lg] 25) = W at *
  obtain ⟨x0, x1, x2, x3⟩ := cells3 HH.out.bx
  go_enter Tryz.func4, Tryz.ntmps4
  go_wp2_with fail
  clear hW
  refine KS.out.mono ?_
  rintro e w1 ⟨rfl, hb1⟩
  have HH := Hid.mk' (HH.out.below hb1)
  have HB := Hid.mk' (HB.out.trans (hb1.mono HB.out.size))
  clear hb1 KS x0 x1 x2 x3
  have KT := szTokenS_any q c' l (1048576 - (s.nd.length : Int) - nssz s.nd - s.op.length) w1 HH.out.st WT.out (by omega) (by omega) nt
  by_cases g2 : 1048576 - (s.nd.length : Int) - nssz s.nd - s.op.length < (l.length : Int) + tssz l
  · rw [if_pos g2] at KT
    have KT := Hid.mk' KT
    go_wp2_with fail
    refine KT.out.mono ?_
    rintro e w2 ⟨rfl, hb2⟩
    have HB := Hid.mk' (HB.out.trans (hb2.mono HB.out.size))
    clear hb2 KT
    go_wp2
    go_ret
    exact ⟨rfl, HB.out⟩
  rw [if_neg g2] at KT
  have KT := Hid.mk' KT
  have zy : ¬ (1048576 - (s.nd.length : Int) - nssz s.nd - s.op.length - (l.length : Int) - tssz l < 0) := by omega
  obtain ⟨nR0, oR0⟩ := pallR_le s l hl (by omega)
  have hm : (l.length : Int) + tssz l ≤ 1048576 := by omega
  have KS0 : Hid (∀ (a' p' q' : Option Addr) (c1 d1 c2 : Nat) (w' : World), SAt w' a' p' s → TsB w' q' l → Calls Tryz.prog 20 #[.agg #[.slice a' s.nd.length c1, .slice p' s.op.length d1, .bool s.lg], .slice q' l.length c2] w' fun e w'' => PutP (pallC s l) (pallR s l) w' e w'') := fun a' p' q' c1 d1 c2 w' h1 h2 => specAll_any s l a' p' q' c1 d1 c2 w' h1 h2 hl hm
  have KI0 : Hid (∀ (a' p' q' : Option Addr) (c1 d1 c2 : Nat) (w' : World), SAt w' a' p' s → TsAt w' q' l → Calls Tryz.prog 22 #[.agg #[.slice a' s.nd.length c1, .slice p' s.op.length d1, .bool s.lg], .slice q' l.length c2] w' fun e w'' => PutP (pallC s l) (pallR s l) w' e w'') := fun a' p' q' c1 d1 c2 w' h1 h2 => implAll_any s l a' p' q' c1 d1 c2 w' h1 h2 hl hm
  obtain ⟨C, hC⟩ : ∃ C, pallC s l = C := ⟨_, rfl⟩
  obtain ⟨R, hR⟩ : ∃ R, pallR s l = R := ⟨_, rfl⟩
  rw [hC, hR] at KS0 KI0
  rw [hR] at nR0 oR0
  clear g2 hC hR
  go_wp2_with fail
  refine KT.out.mono ?_
  rintro e w2 ⟨rfl, hb2⟩
  have HH := Hid.mk' (HH.out.below hb2)
  have HB := Hid.mk' (HB.out.trans (hb2.mono HB.out.size))
  clear hb2 KT
  obtain ⟨x0, x1, x2, x3⟩ := cells3 HH.out.bx

  go_wp2_with fail
  refine (toBuild_at s a p c d _ HH.out.sx hl).mono ?_
  rintro e v3 ⟨g3, h3, rfl, t3, hb3⟩
  have ST := Hid.mk' (HH.out.below hb3).st
  have T3 := Hid.mk' t3
  have HB3 := Hid.mk' hb3
  clear t3 hb3 x0 x1 x2 x3
  go_wp2_with fail
  refine (toTokenW q c' l _ ST.out hm).mono ?_
  rintro e v4 ⟨rfl, t4⟩
  have hb4 := t4.bl
  have T3 := Hid.mk' (T3.out.below hb4)
  have HB4 := Hid.mk' (HB3.out.trans (hb4.mono HB3.out.size))
  have T4 := Hid.mk' t4.tr.atB
  have T4t := Hid.mk' t4.tr.at
  clear t4 hb4 HB3 ST
  go_wp2_with fail
  refine (KS0.out _ _ _ _ _ _ _ T3.out T4.out).mono ?_
  rintro e w5 ⟨τ5, vn5, vo5, va5, vt5, us5, rfl, q5, cap5, hb5⟩
  obtain ⟨a5, c5, p5, d5, rfl, rfl, s5⟩ := q5.at
  have N5 := below_new w5 (.cells #[.int .i64 C, .slice a5 R.nd.length c5, .slice p5 R.op.length d5, .bool R.lg] 35)
  have hb35 : Below w2.heap.size w2 w5 := HB4.out.trans (hb5.mono HB4.out.size)
  have BX := hb35.trans (N5.mono hb35.size)
  have RX := row4 w5 35 (.int .i64 C) (.slice a5 R.nd.length c5) (.slice p5 R.op.length d5) (.bool R.lg)
  have SX := s5.below N5

  have HH := Hid.mk' (HH.out.below BX)
  have HB := Hid.mk' (HB.out.trans (BX.mono HB.out.size))
  have RW := Hid.mk' RX
  have SW := Hid.mk' SX
  clear BX RX SX hb35 N5 q5 cap5 hb5 s5 T3 T4 T4t HB4 KS0
  try clear zz zy
  generalize hW5 : w5.alloc (.cells #[.int .i64 C, .slice a5 R.nd.length c5, .slice p5 R.op.length d5, .bool R.lg] 35) = W5 at *
  obtain ⟨x0, x1, x2, x3⟩ := cells3 HH.out.bx
  go_wp2_with fail
  clear hW5
  refine (toBuild_any s a p c d W5 HH.out.sx.1 HH.out.sx.2 hl).mono ?_
  rintro e w6 ⟨gn, hi, go, rfl, l1, nx, l2, rg, hb6⟩
  have N6 := below_new w6 (.cells #[.slice (some ⟨gn, 0, none⟩) s.nd.length s.nd.length, .slice (some ⟨go, 0, none⟩) s.op.length s.op.length, .bool s.lg] 33)
  have B5 := Hid.mk' (hb6.trans (N6.mono hb6.size))
  have X0 : Hid (X0P W5.heap.size w6.heap.size gn hi go s _) := Hid.mk' ⟨row3 w6 33 (.slice (some ⟨gn, 0, none⟩) s.nd.length s.nd.length) (.slice (some ⟨go, 0, none⟩) s.op.length s.op.length) (.bool s.lg), nx.below N6, rowB rg N6, l1, l2, rg.lt⟩
  have L6 : Hid (go < w6.heap.size ∧ W5.heap.size ≤ gn) := Hid.mk' ⟨rg.lt, l1⟩
  have Z6 : Hid ((w6.alloc (.cells #[.slice (some ⟨gn, 0, none⟩) s.nd.length s.nd.length, .slice (some ⟨go, 0, none⟩) s.op.length s.op.length, .bool s.lg] 33)).heap.size = w6.heap.size + 1) := Hid.mk' (by simp)
  have L56 := Hid.mk' B5.out.size
  clear l1 nx l2 rg hb6 N6 x0 x1 x2 x3
  generalize hW6 : w6.alloc (.cells #[.slice (some ⟨gn, 0, none⟩) s.nd.length s.nd.length, .slice (some ⟨go, 0, none⟩) s.op.length s.op.length, .bool s.lg] 33) = W6 at *
  go_wp2_with fail
  clear hW6
  refine (toTokenW q c' l W6 (HH.out.below B5.out).st hm).mono ?_
  rintro e w7 ⟨rfl, t7⟩
  have hb7 := t7.bl
  have B5 := Hid.mk' (B5.out.trans (hb7.mono B5.out.size))
  have X0 := Hid.mk' (X0.out.below hb7)
  have L7 : Hid (W6.heap.size ≤ w7.heap.size) := Hid.mk' hb7.size
  have X1 := Hid.mk' t7.tr.at
  obtain ⟨hj, j1, j2, tm⟩ := t7.tm
  have XM := Hid.mk' tm
  clear t7 hb7 tm
  obtain ⟨x0, x1, x2, x3⟩ := cells3 X0.out.box
  go_wp2_with fail
  refine (KI0.out _ _ _ _ _ _ w7 X0.out.at X1.out).mono ?_
  rintro e w8 ⟨τ8, vn8, vo8, va8, vt8, us8, rfl, q8, cap8, hb8⟩
  obtain ⟨a8, c8, p8, d8, rfl, rfl, s8⟩ := q8.at
  have N8 := below_new w8 (.cells #[.int .i64 C, .slice a8 R.nd.length c8, .slice p8 R.op.length d8, .bool R.lg] 35)
  have hb := hb8.trans (N8.mono hb8.size)
  have B5 := Hid.mk' (B5.out.trans (hb.mono B5.out.size))
  have X0 := Hid.mk' (X0.out.below hb)
  have X1 := Hid.mk' (X1.out.below hb)
  have XM := Hid.mk' (XM.out.keep hb.size (fun q _ _ hq => hb.block q hq))
  have G : Hid (GP w7.heap.size w8.heap.size τ8 (.slice a8 R.nd.length c8) (.slice p8 R.op.length d8) va8 vt8 us8 C R.lg R _) := Hid.mk' ⟨row4 w8 35 (.int .i64 C) (.slice a8 R.nd.length c8) (.slice p8 R.op.length d8) (.bool R.lg), q8.below N8, cap8, hb8.size⟩
  clear q8 cap8 hb8 s8 N8 hb x0 x1 x2 x3
  generalize hW8 : w8.alloc (.cells #[.int .i64 C, .slice a8 R.nd.length c8, .slice p8 R.op.length d8, .bool R.lg] 35) = W8 at *
  obtain ⟨e0, e1, e2, e3, e4⟩ := cells4 G.out.box
  obtain ⟨k0, k1, k2, k3, k4⟩ := cells4 (rowB RW.out B5.out)
  go_wp2_with fail
  clear hW8
  refine (eqBRes_is C R a8 p8 a5 p5 c8 d8 c5 d5 W8 G.out.sq.sat (SW.out.below B5.out) nR0 oR0).mono ?_
  rintro e w9 ⟨rfl, hb⟩
  have B5 := Hid.mk' (B5.out.trans (hb.mono B5.out.size))
  have X0 := Hid.mk' (X0.out.below hb)
  have X1 := Hid.mk' (X1.out.below hb)
  have XM := Hid.mk' (XM.out.keep hb.size (fun q _ _ hq => hb.block q hq))
  have G := Hid.mk' (G.out.below hb)
  clear hb e0 e1 e2 e3 e4 k0 k1 k2 k3 k4
  obtain ⟨x0, x1, x2, x3⟩ := cells3 (HH.out.below B5.out).bx
  obtain ⟨p0, p1, p2_, p3⟩ := cells3 X0.out.box
  have AA := Hid.mk' (HH.out.below B5.out).sx
  go_wp2
  go_region_held3 (fun w' => w'.cell? ⟨w.heap.size, 0, none⟩ = some (.slice a s.nd.length c) ∧ w'.cell? ⟨w.heap.size, 1, none⟩ = some (.slice p s.op.length d) ∧ w'.cell? ⟨w.heap.size, 2, none⟩ = some (.bool s.lg) ∧ w'.cell? ⟨w6.heap.size, 0, none⟩ = some (.slice (some ⟨gn, 0, none⟩) s.nd.length s.nd.length) ∧ w'.cell? ⟨w6.heap.size, 1, none⟩ = some (.slice (some ⟨go, 0, none⟩) s.op.length s.op.length) ∧ w'.cell? ⟨w6.heap.size, 2, none⟩ = some (.bool s.lg)) (simp [*])
    (first | (go_at_call 9; refine (toBuild_at s a p c d _ (AA.out.below (Below.refl _ _).drew) hl).mono ?_; rintro e v9 ⟨g9, h9, rfl, t9, hb9⟩; replace hb9 := undrew hb9; obtain ⟨hx1, hx2⟩ := bcell hb9; have z1 := hb9.size; have z2 : w.heap.size < v9.heap.size := (by omega); have z3 : w6.heap.size < v9.heap.size := (by omega)) | (go_at_call 13; refine (eqBuild_any s _ _ _ _ _ _ _ _ _ (X0.out.at.below hb9).1 t9.1 (X0.out.at.below hb9).2 t9.2 hl).mono ?_; rintro e wA ⟨rfl, hbA⟩; obtain ⟨hx3, hx4⟩ := bcell hbA))
  have hb := hb9.trans (hbA.mono hb9.size)
  have B5 := Hid.mk' (B5.out.trans (hb.mono B5.out.size))
  have X0 := Hid.mk' (X0.out.below hb)
  have X1 := Hid.mk' (X1.out.below hb)
  have XM := Hid.mk' (XM.out.keep hb.size (fun q _ _ hq => hb.block q hq))
  have G := Hid.mk' (G.out.below hb)
  clear hb hx1 hx2 hx3 hx4 z1 z2 z3 hb9 hbA t9 x0 x1 x2 x3 p0 p1 p2_ p3 AA
  go_wp2_with fail
  refine (toTokenW q c' l wA (HH.out.below B5.out).st hm).mono ?_
  rintro e wK ⟨rfl, t9⟩
  have hb := t9.bl
  have T9 := Hid.mk' t9.tr.at
  have B5 := Hid.mk' (B5.out.trans (hb.mono B5.out.size))
  have X0 := Hid.mk' (X0.out.below hb)
  have X1 := Hid.mk' (X1.out.below hb)
  have XM := Hid.mk' (XM.out.keep hb.size (fun q _ _ hq => hb.block q hq))
  have G := Hid.mk' (G.out.below hb)
  clear hb t9
  go_wp2_with fail
  refine (eqTokenS_any _ _ _ _ l wK X1.out T9.out hm).mono ?_
  rintro e wB ⟨rfl, hb⟩
  have B5 := Hid.mk' (B5.out.trans (hb.mono B5.out.size))
  have X0 := Hid.mk' (X0.out.below hb)
  have XM := Hid.mk' (XM.out.keep hb.size (fun q _ _ hq => hb.block q hq))
  have G := Hid.mk' (G.out.below hb)
  clear hb T9 X1
  obtain ⟨p0, p1, p2_, p3⟩ := cells3 X0.out.box
  go_wp2_with fail
  refine (markBS_bd gn hi go s wB X0.out.nx X0.out.rw_ X0.out.l2 hl).mono ?_
  rintro e wC ⟨⟨z, rfl, z0, z1⟩, hk⟩
  have l6 := L6.out
  have z6 := Z6.out
  have l7 := L7.out
  have l56 := L56.out
  have B5 := Hid.mk' (B5.out.trans (hk.below l6.2 B5.out.size))
  have XM := Hid.mk' (XM.out.keep (w' := wC) hk.size (fun k h1 h2 h3 => hk.block k h3 (.inr (by omega))))
  have G := Hid.mk' (G.out.kept hk (by omega))
  clear hk X0 p0 p1 p2_ p3 l6 z6 l7 l56
  go_wp2_with fail
  refine (markTokenS_bd W6.heap.size hj l.length z l wC XM.out hm z0 z1).mono ?_
  rintro e wD ⟨⟨y, rfl, y0, y1⟩, hk⟩
  have B5 := Hid.mk' (B5.out.trans (hk.below L56.out B5.out.size))
  have G := Hid.mk' (G.out.kept hk j2)
  clear hk XM
  obtain ⟨e0, e1, e2, e3, e4⟩ := cells4 G.out.box
  obtain ⟨k0, k1, k2, k3, k4⟩ := cells4 (rowB RW.out B5.out)
  have kz : ¬ ((y : Int) < 0) := by omega
  go_wp2_with fail
  refine (eqBRes_is C R a8 p8 a5 p5 c8 d8 c5 d5 wD G.out.sq.sat (SW.out.below B5.out) nR0 oR0).mono ?_
  rintro e wE ⟨rfl, hb⟩
  have B5 := Hid.mk' (B5.out.trans (hb.mono B5.out.size))
  have G := Hid.mk' (G.out.below hb)
  clear hb e0 e1 e2 e3 e4 k0 k1 k2 k3 k4 kz
  obtain ⟨e0, e1, e2, e3, e4⟩ := cells4 G.out.box
  go_wp2_with fail
  refine (markBRes_is C τ8 w7.heap.size (.slice a8 R.nd.length c8) (.slice p8 R.op.length d8) R va8 vt8 us8 wE G.out.sq (fun k hk => G.out.cap k (by have := G.out.box.lt; omega)) (by have := G.out.box.lt; have := G.out.lq; omega) (by omega) oR0).mono ?_
  rintro e wF ⟨rfl, q15, kp⟩
  have hk : KeptIn w7.heap.size w8.heap.size wE wF := kp.keptIn (fun k e => G.out.cap k (by omega))
  have GF : Hid (GP w7.heap.size w8.heap.size τ8 (.slice a8 R.nd.length c8) (.slice p8 R.op.length d8) va8 vt8 us8 C R.lg (mkSt 1 R) wF) := Hid.mk' ⟨rowK G.out.box hk (.inr (Nat.le_refl _)), q15, G.out.cap, G.out.lq⟩
  have B5 := Hid.mk' (B5.out.trans (hk.below (Nat.le_trans L56.out L7.out) B5.out.size))
  have zm : ¬ (((1 + cnN R.nd : Nat) : Int) + (R.op.length : Int) < 0) := by omega
  clear q15 kp hk G e0 e1 e2 e3 e4
  obtain ⟨e0, e1, e2, e3, e4⟩ := cells4 GF.out.box
  go_wp2_with fail
  refine (heldBRes_is C R a8 p8 c8 d8 wF GF.out.sq.sat (by omega) oR0).mono ?_
  rintro e wG ⟨rfl, hb⟩
  have B5 := Hid.mk' (B5.out.trans (hb.mono B5.out.size))
  have GF := Hid.mk' (GF.out.below hb)
  clear hb e0 e1 e2 e3 e4
  have HG := Hid.mk' (HH.out.below B5.out)
  obtain ⟨x0, x1, x2, x3⟩ := cells3 HG.out.bx

  go_wp2_with fail
  refine (toBuild_at s a p c d _ HG.out.sx hl).mono ?_
  rintro e v3 ⟨g3, h3, rfl, t3, hb3⟩
  have ST := Hid.mk' (HG.out.below hb3).st
  have T3 := Hid.mk' t3
  have HB3 := Hid.mk' hb3
  clear t3 hb3 x0 x1 x2 x3
  go_wp2_with fail
  refine (toTokenW q c' l _ ST.out hm).mono ?_
  rintro e v4 ⟨rfl, t4⟩
  have hb4 := t4.bl
  have T3 := Hid.mk' (T3.out.below hb4)
  have HB4 := Hid.mk' (HB3.out.trans (hb4.mono HB3.out.size))
  have T4 := Hid.mk' t4.tr.atB
  have T4t := Hid.mk' t4.tr.at
  clear t4 hb4 HB3 ST
  go_wp2_with fail
  refine (KI0.out _ _ _ _ _ _ _ T3.out T4t.out).mono ?_
  rintro e wH ⟨τH, vnH, voH, vaH, vtH, usH, rfl, qH, capH, hbH⟩
  obtain ⟨aH, cH, pH, dH, rfl, rfl, sH⟩ := qH.at
  have NH := below_new wH (.cells #[.int .i64 C, .slice aH R.nd.length cH, .slice pH R.op.length dH, .bool R.lg] 35)
  have hb35 : Below wG.heap.size wG wH := HB4.out.trans (hbH.mono HB4.out.size)
  have BX := hb35.trans (NH.mono hb35.size)
  have RX := row4 wH 35 (.int .i64 C) (.slice aH R.nd.length cH) (.slice pH R.op.length dH) (.bool R.lg)
  have SX := sH.below NH

  have B5 := Hid.mk' (B5.out.trans (BX.mono B5.out.size))
  have GF := Hid.mk' (GF.out.below BX)
  have RHh := Hid.mk' RX
  have SH := Hid.mk' SX
  clear BX RX SX hb35 NH qH capH hbH sH T3 T4 T4t HB4 KI0 HG
  generalize hWH : wH.alloc (.cells #[.int .i64 C, .slice aH R.nd.length cH, .slice pH R.op.length dH, .bool R.lg] 35) = WH at *
  obtain ⟨e0, e1, e2, e3, e4⟩ := cells4 RHh.out
  obtain ⟨k0, k1, k2, k3, k4⟩ := cells4 (rowB RW.out B5.out)
  go_wp2_with fail
  clear hWH
  refine (eqBRes_is C R aH pH a5 p5 cH dH c5 d5 WH SH.out (SW.out.below B5.out) nR0 oR0).mono ?_
  rintro e wI ⟨rfl, hb⟩
  have B5 := Hid.mk' (B5.out.trans (hb.mono B5.out.size))
  have GF := Hid.mk' (GF.out.below hb)
  clear hb e0 e1 e2 e3 e4 k0 k1 k2 k3 k4
  obtain ⟨e0, e1, e2, e3, e4⟩ := cells4 GF.out.box
  go_wp2_with fail
  refine (heldBRes_is C R a8 p8 c8 d8 wI GF.out.sq.sat (by omega) oR0).mono ?_
  rintro e wJ ⟨rfl, hb⟩
  have B5 := Hid.mk' (B5.out.trans (hb.mono B5.out.size))
  clear hb e0 e1 e2 e3 e4
  go_wp2
  go_ret
  exact ⟨rfl, HB.out.trans (B5.out.mono HB.out.size)⟩

end Go.Proofs.YtpncbcmngfpkfaaGreat
