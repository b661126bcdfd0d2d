/- The law on PutAll. -/
import Derived.Test.YtpcpnfpnkkjkcaaGreatU13
import Derived.Test.YtpcpnfpnkkjkcaaGreatU1
import Derived.Test.YtpcpnfpnkkjkcaaGreatU2
import Derived.ShutString
import Derived.ChangeOld
import Derived.ChangeMaps5
import Derived.Lib.SmallJoins
import Derived.Deep.SlicePairs
import Derived.Test.YtpcpnfpnkkjkcaaGreatU12
namespace Go.Proofs.YtpcpnfpnkkjkcaaGreat
open Go.RowKit
set_option linter.unusedVariables false
set_option linter.unusedSimpArgs false

theorem pallR_le (s : BS) (l : List TK) (hl : (s.nd.length : Int) + nssz s.nd + s.op.length ≤ 1048576) (ht : (l.length : Int) + tssz l ≤ 1048576 - (s.nd.length : Int) - nssz s.nd - s.op.length) : ((pallR s l).nd.length : Int) + nssz (pallR s l).nd + (pallR s l).op.length ≤ 2000000 ∧ ((pallR s l).op.length : Int) ≤ 1048576 := by
  by_cases h0 : pallC s l = 0
  · rw [pallR_good h0]
    rcases pall_cases s l with ⟨h1, h2, _⟩ | ⟨_, _, h2, _⟩ | ⟨h1, h4, _⟩
    · exact absurd (h2.symm.trans h0) h1
    · rw [h2] at h0; exact absurd h0 (by decide)
    · have g := (gs_fold (gs_of h1) l).o
      have n := nS_fold l s
      unfold nS at n
      omega
  · rw [pallR_bad h0]; simp [noS, nssz]

/-- The arguments of a law on a state and tokens, the state in its box. -/
structure HQ (b : Nat) (s : BS) (l : List TK) (a p : Option Addr) (c d : Nat) (q : Option Addr) (wi : World) : Prop where
  bx : wi.rowIs b 25 3 (r3 (.slice a s.nd.length c) (.slice p s.op.length d) (.bool s.lg))
  sx : SAt wi a p s
  st : TsAt wi q l

theorem HQ.below {b : Nat} {s : BS} {l : List TK} {a p : Option Addr} {c d : Nat} {q : Option Addr} {wi wj : World} (h : HQ b s l a p c d q wi) (hb : Below wi.heap.size wi wj) : HQ b s l a p c d q wj := ⟨rowB h.bx hb, h.sx.below hb, h.st.below hb⟩

theorem TW.below {w wr w1 : World} {l : List TK} {k : Nat} (h : TW w l k wr) (hb : Below wr.heap.size wr w1) : TW w l k w1 := by
  obtain ⟨f, s, hf, h0, h1, h2, hj⟩ := h.row
  refine ⟨h.bl.trans (hb.mono h.bl.size), f, s, rowB hf hb, h0, Nat.le_trans h1 hb.size, h2, fun j hk => ?_⟩
  obtain ⟨e1, e2, e3, ⟨g', e4, e5, e6⟩, e7⟩ := hj j hk
  exact ⟨e1, e2, e3, ⟨g', e4, e5, e6.below hb⟩, e7⟩

set_option maxRecDepth 100000 in
set_option maxHeartbeats 12000000 in
theorem lawPA_any (s : BS) (a p : Option Addr) (c d : Nat) (q : Option Addr) (c' : Nat) (l : List TK) (w : World) (ha : SAt w a p s) (wa : WideN s.nd) (na : (s.nd.length : Int) ≤ 9223372036854775807) (ma : (s.op.length : Int) ≤ 9223372036854775807) (ht : TsAt w q l) (wt : WideT l) (nt : (l.length : Int) ≤ 9223372036854775807) :
    Calls Tryz.prog 4 #[.agg #[.slice a s.nd.length c, .slice p s.op.length d, .bool s.lg], .slice q l.length c'] w fun e w' => e = .returned (.bool true) ∧ Below w.heap.size w w' := by
  have B0 := below_new w (.cells #[.slice a s.nd.length c, .slice p s.op.length d, .bool s.lg] 25)
  have H0 : HQ w.heap.size s l a p c d q _ := ⟨row3 w 25 (.slice a s.nd.length c) (.slice p s.op.length d) (.bool s.lg), ha.below B0, ht.below B0⟩
  have KS := szBuild_any s a p c d 1048576 _ (ha.below B0).1 wa na ma (by omega) (by omega)
  have HH := Hid.mk' H0
  have HB := Hid.mk' B0
  have WT := Hid.mk' wt
  clear B0 ha ht H0 wa wt
  by_cases g1 : 1048576 < (s.nd.length : Int) + nssz s.nd + s.op.length
  · rw [if_pos g1] at KS
    have KS := Hid.mk' KS
    generalize hW : w.alloc (.cells #[.slice a s.nd.length c, .slice p s.op.length d, .bool s.lg] 25) = W at *
    obtain ⟨x0, x1, x2, x3⟩ := cells3 HH.out.bx
    go_enter Tryz.func4, Tryz.ntmps4
    go_wp2_with fail
    clear hW
    refine KS.out.mono ?_
    rintro e w1 ⟨rfl, hb1⟩
    have HB := Hid.mk' (HB.out.trans (hb1.mono HB.out.size))
    clear hb1 KS
    go_wp2
    go_ret
    exact ⟨rfl, HB.out⟩
  rw [if_neg g1] at KS
  have KS := Hid.mk' KS
  have zz : ¬ (1048576 - (s.nd.length : Int) - nssz s.nd - s.op.length < 0) := by omega
  have hl : (s.nd.length : Int) + nssz s.nd + s.op.length ≤ 1048576 := by omega
  clear g1
  generalize hW : w.alloc (.cells #[.slice a s.nd.length c, .slice p s.op.length d, .bool s.lg] 25) = W at *
  obtain ⟨x0, x1, x2, x3⟩ := cells3 HH.out.bx
  go_enter Tryz.func4, Tryz.ntmps4
  go_wp2_with fail
  clear hW
  refine KS.out.mono ?_
  rintro e w1 ⟨rfl, hb1⟩
  have HH := Hid.mk' (HH.out.below hb1)
  have HB := Hid.mk' (HB.out.trans (hb1.mono HB.out.size))
  clear hb1 KS x0 x1 x2 x3
  have KT := szTokenS_any q c' l (1048576 - (s.nd.length : Int) - nssz s.nd - s.op.length) w1 HH.out.st WT.out (by omega) (by omega) nt
  by_cases g2 : 1048576 - (s.nd.length : Int) - nssz s.nd - s.op.length < (l.length : Int) + tssz l
  · rw [if_pos g2] at KT
    have KT := Hid.mk' KT
    go_wp2_with fail
    refine KT.out.mono ?_
    rintro e w2 ⟨rfl, hb2⟩
    have HB := Hid.mk' (HB.out.trans (hb2.mono HB.out.size))
    clear hb2 KT
    go_wp2
    go_ret
    exact ⟨rfl, HB.out⟩
  rw [if_neg g2] at KT
  have KT := Hid.mk' KT
  have zy : ¬ (1048576 - (s.nd.length : Int) - nssz s.nd - s.op.length - (l.length : Int) - tssz l < 0) := by omega
  obtain ⟨nR0, oR0⟩ := pallR_le s l hl (by omega)
  have hm : (l.length : Int) + tssz l ≤ 1048576 := by omega
  have KS0 : Hid (∀ (a' p' q' : Option Addr) (c1 d1 c2 : Nat) (w' : World), SAt w' a' p' s → TsB w' q' l → Calls Tryz.prog 20 #[.agg #[.slice a' s.nd.length c1, .slice p' s.op.length d1, .bool s.lg], .slice q' l.length c2] w' fun e w'' => PutP (pallC s l) (pallR s l) w' e w'') := fun a' p' q' c1 d1 c2 w' h1 h2 => specAll_any s l a' p' q' c1 d1 c2 w' h1 h2 hl hm
  have KI0 : Hid (∀ (a' p' q' : Option Addr) (c1 d1 c2 : Nat) (w' : World), SAt w' a' p' s → TsAt w' q' l → Calls Tryz.prog 22 #[.agg #[.slice a' s.nd.length c1, .slice p' s.op.length d1, .bool s.lg], .slice q' l.length c2] w' fun e w'' => PutP (pallC s l) (pallR s l) w' e w'') := fun a' p' q' c1 d1 c2 w' h1 h2 => implAll_any s l a' p' q' c1 d1 c2 w' h1 h2 hl hm
  obtain ⟨C, hC⟩ : ∃ C, pallC s l = C := ⟨_, rfl⟩
  obtain ⟨R, hR⟩ : ∃ R, pallR s l = R := ⟨_, rfl⟩
  rw [hC, hR] at KS0 KI0
  rw [hR] at nR0 oR0
  clear g2 hC hR
  go_wp2_with fail
  refine KT.out.mono ?_
  rintro e w2 ⟨rfl, hb2⟩
  have HH := Hid.mk' (HH.out.below hb2)
  have HB := Hid.mk' (HB.out.trans (hb2.mono HB.out.size))
  clear hb2 KT
  obtain ⟨x0, x1, x2, x3⟩ := cells3 HH.out.bx

  go_wp2_with fail
  refine (toBuild_at s a p c d _ HH.out.sx hl).mono ?_
  rintro e v3 ⟨g3, h3, rfl, t3, hb3⟩
  have ST := Hid.mk' (HH.out.below hb3).st
  have T3 := Hid.mk' t3
  have HB3 := Hid.mk' hb3
  clear t3 hb3 x0 x1 x2 x3
  go_wp2_with fail
  refine (toTokenW q c' l _ ST.out hm).mono ?_
  rintro e v4 ⟨rfl, t4⟩
  have hb4 := t4.bl
  have T3 := Hid.mk' (T3.out.below hb4)
  have HB4 := Hid.mk' (HB3.out.trans (hb4.mono HB3.out.size))
  have T4 := Hid.mk' t4.tr.atB
  have T4t := Hid.mk' t4.tr.at
  clear t4 hb4 HB3 ST
  go_wp2_with fail
  refine (KS0.out _ _ _ _ _ _ _ T3.out T4.out).mono ?_
  rintro e w5 ⟨τ5, vn5, vo5, va5, vt5, us5, rfl, q5, cap5, hb5⟩
  obtain ⟨a5, c5, p5, d5, rfl, rfl, s5⟩ := q5.at
  have N5 := below_new w5 (.cells #[.int .i64 C, .slice a5 R.nd.length c5, .slice p5 R.op.length d5, .bool R.lg] 35)
  have hb35 : Below w2.heap.size w2 w5 := HB4.out.trans (hb5.mono HB4.out.size)
  have BX := hb35.trans (N5.mono hb35.size)
  have RX := row4 w5 35 (.int .i64 C) (.slice a5 R.nd.length c5) (.slice p5 R.op.length d5) (.bool R.lg)
  have SX := s5.below N5

  have HH := Hid.mk' (HH.out.below BX)
  have HB := Hid.mk' (HB.out.trans (BX.mono HB.out.size))
  have RW := Hid.mk' RX
  have SW := Hid.mk' SX
  clear BX RX SX hb35 N5 q5 cap5 hb5 s5 T3 T4 T4t HB4 KS0
  try clear zz zy
  generalize hW5 : w5.alloc (.cells #[.int .i64 C, .slice a5 R.nd.length c5, .slice p5 R.op.length d5, .bool R.lg] 35) = W5 at *
  obtain ⟨x0, x1, x2, x3⟩ := cells3 HH.out.bx
  go_wp2_with fail
  clear hW5
  refine (toBuild_any s a p c d W5 HH.out.sx.1 HH.out.sx.2 hl).mono ?_
  rintro e w6 ⟨gn, hi, go, rfl, l1, nx, l2, rg, hb6⟩
  have N6 := below_new w6 (.cells #[.slice (some ⟨gn, 0, none⟩) s.nd.length s.nd.length, .slice (some ⟨go, 0, none⟩) s.op.length s.op.length, .bool s.lg] 33)
  have B5 := Hid.mk' (hb6.trans (N6.mono hb6.size))
  have X0 : Hid (X0P W5.heap.size w6.heap.size gn hi go s _) := Hid.mk' ⟨row3 w6 33 (.slice (some ⟨gn, 0, none⟩) s.nd.length s.nd.length) (.slice (some ⟨go, 0, none⟩) s.op.length s.op.length) (.bool s.lg), nx.below N6, rowB rg N6, l1, l2, rg.lt⟩
  have L6 : Hid (go < w6.heap.size ∧ W5.heap.size ≤ gn) := Hid.mk' ⟨rg.lt, l1⟩
  have Z6 : Hid ((w6.alloc (.cells #[.slice (some ⟨gn, 0, none⟩) s.nd.length s.nd.length, .slice (some ⟨go, 0, none⟩) s.op.length s.op.length, .bool s.lg] 33)).heap.size = w6.heap.size + 1) := Hid.mk' (by simp)
  have L56 := Hid.mk' B5.out.size
  clear l1 nx l2 rg hb6 N6 x0 x1 x2 x3
  generalize hW6 : w6.alloc (.cells #[.slice (some ⟨gn, 0, none⟩) s.nd.length s.nd.length, .slice (some ⟨go, 0, none⟩) s.op.length s.op.length, .bool s.lg] 33) = W6 at *
  go_wp2_with fail
  clear hW6
  refine (toTokenW q c' l W6 (HH.out.below B5.out).st hm).mono ?_
  rintro e w7 ⟨rfl, t7⟩
  have hb7 := t7.bl
  have B5 := Hid.mk' (B5.out.trans (hb7.mono B5.out.size))
  have X0 := Hid.mk' (X0.out.below hb7)
  have L7 : Hid (W6.heap.size ≤ w7.heap.size) := Hid.mk' hb7.size
  have X1 := Hid.mk' t7.tr.at
  obtain ⟨hj, j1, j2, tm⟩ := t7.tm
  have XM := Hid.mk' tm
  clear t7 hb7 tm
  obtain ⟨x0, x1, x2, x3⟩ := cells3 X0.out.box
  go_wp2_with fail
  refine (KI0.out _ _ _ _ _ _ w7 X0.out.at X1.out).mono ?_
  rintro e w8 ⟨τ8, vn8, vo8, va8, vt8, us8, rfl, q8, cap8, hb8⟩
  obtain ⟨a8, c8, p8, d8, rfl, rfl, s8⟩ := q8.at
  have N8 := below_new w8 (.cells #[.int .i64 C, .slice a8 R.nd.length c8, .slice p8 R.op.length d8, .bool R.lg] 35)
  have hb := hb8.trans (N8.mono hb8.size)
  have B5 := Hid.mk' (B5.out.trans (hb.mono B5.out.size))
  have X0 := Hid.mk' (X0.out.below hb)
  have X1 := Hid.mk' (X1.out.below hb)
  have XM := Hid.mk' (XM.out.keep hb.size (fun q _ _ hq => hb.block q hq))
  have G : Hid (GP w7.heap.size w8.heap.size τ8 (.slice a8 R.nd.length c8) (.slice p8 R.op.length d8) va8 vt8 us8 C R.lg R _) := Hid.mk' ⟨row4 w8 35 (.int .i64 C) (.slice a8 R.nd.length c8) (.slice p8 R.op.length d8) (.bool R.lg), q8.below N8, cap8, hb8.size⟩
  clear q8 cap8 hb8 s8 N8 hb x0 x1 x2 x3
  generalize hW8 : w8.alloc (.cells #[.int .i64 C, .slice a8 R.nd.length c8, .slice p8 R.op.length d8, .bool R.lg] 35) = W8 at *
  obtain ⟨e0, e1, e2, e3, e4⟩ := cells4 G.out.box
  obtain ⟨k0, k1, k2, k3, k4⟩ := cells4 (rowB RW.out B5.out)
  go_wp2_with fail
  clear hW8
  refine (eqBRes_is C R a8 p8 a5 p5 c8 d8 c5 d5 W8 G.out.sq.sat (SW.out.below B5.out) nR0 oR0).mono ?_
  rintro e w9 ⟨rfl, hb⟩
  have B5 := Hid.mk' (B5.out.trans (hb.mono B5.out.size))
  have X0 := Hid.mk' (X0.out.below hb)
  have X1 := Hid.mk' (X1.out.below hb)
  have XM := Hid.mk' (XM.out.keep hb.size (fun q _ _ hq => hb.block q hq))
  have G := Hid.mk' (G.out.below hb)
  clear hb e0 e1 e2 e3 e4 k0 k1 k2 k3 k4
  obtain ⟨x0, x1, x2, x3⟩ := cells3 (HH.out.below B5.out).bx
  obtain ⟨p0, p1, p2_, p3⟩ := cells3 X0.out.box
  have AA := Hid.mk' (HH.out.below B5.out).sx
  go_wp2
  go_region_held3 (fun w' => w'.cell? ⟨w.heap.size, 0, none⟩ = some (.slice a s.nd.length c) ∧ w'.cell? ⟨w.heap.size, 1, none⟩ = some (.slice p s.op.length d) ∧ w'.cell? ⟨w.heap.size, 2, none⟩ = some (.bool s.lg) ∧ w'.cell? ⟨w6.heap.size, 0, none⟩ = some (.slice (some ⟨gn, 0, none⟩) s.nd.length s.nd.length) ∧ w'.cell? ⟨w6.heap.size, 1, none⟩ = some (.slice (some ⟨go, 0, none⟩) s.op.length s.op.length) ∧ w'.cell? ⟨w6.heap.size, 2, none⟩ = some (.bool s.lg)) (simp [*])
    (first | (go_at_call 9; refine (toBuild_at s a p c d _ (AA.out.below (Below.refl _ _).drew) hl).mono ?_; rintro e v9 ⟨g9, h9, rfl, t9, hb9⟩; replace hb9 := undrew hb9; obtain ⟨hx1, hx2⟩ := bcell hb9; have z1 := hb9.size; have z2 : w.heap.size < v9.heap.size := (by omega); have z3 : w6.heap.size < v9.heap.size := (by omega)) | (go_at_call 13; refine (eqBuild_any s _ _ _ _ _ _ _ _ _ (X0.out.at.below hb9).1 t9.1 (X0.out.at.below hb9).2 t9.2 hl).mono ?_; rintro e wA ⟨rfl, hbA⟩; obtain ⟨hx3, hx4⟩ := bcell hbA))
  have hb := hb9.trans (hbA.mono hb9.size)
  have B5 := Hid.mk' (B5.out.trans (hb.mono B5.out.size))
  have X0 := Hid.mk' (X0.out.below hb)
  have X1 := Hid.mk' (X1.out.below hb)
  have XM := Hid.mk' (XM.out.keep hb.size (fun q _ _ hq => hb.block q hq))
  have G := Hid.mk' (G.out.below hb)
  clear hb hx1 hx2 hx3 hx4 z1 z2 z3 hb9 hbA t9 x0 x1 x2 x3 p0 p1 p2_ p3 AA
  go_wp2_with fail
  refine (toTokenW q c' l wA (HH.out.below B5.out).st hm).mono ?_
  rintro e wK ⟨rfl, t9⟩
  have hb := t9.bl
  have T9 := Hid.mk' t9.tr.at
  have B5 := Hid.mk' (B5.out.trans (hb.mono B5.out.size))
  have X0 := Hid.mk' (X0.out.below hb)
  have X1 := Hid.mk' (X1.out.below hb)
  have XM := Hid.mk' (XM.out.keep hb.size (fun q _ _ hq => hb.block q hq))
  have G := Hid.mk' (G.out.below hb)
  clear hb t9
  go_wp2_with fail
  refine (eqTokenS_any _ _ _ _ l wK X1.out T9.out hm).mono ?_
  rintro e wB ⟨rfl, hb⟩
  have B5 := Hid.mk' (B5.out.trans (hb.mono B5.out.size))
  have X0 := Hid.mk' (X0.out.below hb)
  have XM := Hid.mk' (XM.out.keep hb.size (fun q _ _ hq => hb.block q hq))
  have G := Hid.mk' (G.out.below hb)
  clear hb T9 X1
  obtain ⟨p0, p1, p2_, p3⟩ := cells3 X0.out.box
  go_wp2_with fail
  refine (markBS_bd gn hi go s wB X0.out.nx X0.out.rw_ X0.out.l2 hl).mono ?_
  rintro e wC ⟨⟨z, rfl, z0, z1⟩, hk⟩
  have l6 := L6.out
  have z6 := Z6.out
  have l7 := L7.out
  have l56 := L56.out
  have B5 := Hid.mk' (B5.out.trans (hk.below l6.2 B5.out.size))
  have XM := Hid.mk' (XM.out.keep (w' := wC) hk.size (fun k h1 h2 h3 => hk.block k h3 (.inr (by omega))))
  have G := Hid.mk' (G.out.kept hk (by omega))
  clear hk X0 p0 p1 p2_ p3 l6 z6 l7 l56
  go_wp2_with fail
  refine (markTokenS_bd W6.heap.size hj l.length z l wC XM.out hm z0 z1).mono ?_
  rintro e wD ⟨⟨y, rfl, y0, y1⟩, hk⟩
  have B5 := Hid.mk' (B5.out.trans (hk.below L56.out B5.out.size))
  have G := Hid.mk' (G.out.kept hk j2)
  clear hk XM
  obtain ⟨e0, e1, e2, e3, e4⟩ := cells4 G.out.box
  obtain ⟨k0, k1, k2, k3, k4⟩ := cells4 (rowB RW.out B5.out)
  have kz : ¬ ((y : Int) < 0) := by omega
  go_wp2_with fail
  refine (eqBRes_is C R a8 p8 a5 p5 c8 d8 c5 d5 wD G.out.sq.sat (SW.out.below B5.out) nR0 oR0).mono ?_
  rintro e wE ⟨rfl, hb⟩
  have B5 := Hid.mk' (B5.out.trans (hb.mono B5.out.size))
  have G := Hid.mk' (G.out.below hb)
  clear hb e0 e1 e2 e3 e4 k0 k1 k2 k3 k4 kz
  obtain ⟨e0, e1, e2, e3, e4⟩ := cells4 G.out.box
  go_wp2_with fail
  refine (markBRes_is C τ8 w7.heap.size (.slice a8 R.nd.length c8) (.slice p8 R.op.length d8) R va8 vt8 us8 wE G.out.sq (fun k hk => G.out.cap k (by have := G.out.box.lt; omega)) (by have := G.out.box.lt; have := G.out.lq; omega) (by omega) oR0).mono ?_
  rintro e wF ⟨rfl, q15, kp⟩
  have hk : KeptIn w7.heap.size w8.heap.size wE wF := kp.keptIn (fun k e => G.out.cap k (by omega))
  have GF : Hid (GP w7.heap.size w8.heap.size τ8 (.slice a8 R.nd.length c8) (.slice p8 R.op.length d8) va8 vt8 us8 C R.lg (mkSt 1 R) wF) := Hid.mk' ⟨rowK G.out.box hk (.inr (Nat.le_refl _)), q15, G.out.cap, G.out.lq⟩
  have B5 := Hid.mk' (B5.out.trans (hk.below (Nat.le_trans L56.out L7.out) B5.out.size))
  have zm : ¬ (((1 + cnN R.nd : Nat) : Int) + (R.op.length : Int) < 0) := by omega
  clear q15 kp hk G e0 e1 e2 e3 e4
  obtain ⟨e0, e1, e2, e3, e4⟩ := cells4 GF.out.box
  go_wp2_with fail
  refine (heldBRes_is C R a8 p8 c8 d8 wF GF.out.sq.sat (by omega) oR0).mono ?_
  rintro e wG ⟨rfl, hb⟩
  have B5 := Hid.mk' (B5.out.trans (hb.mono B5.out.size))
  have GF := Hid.mk' (GF.out.below hb)
  clear hb e0 e1 e2 e3 e4
  have HG := Hid.mk' (HH.out.below B5.out)
  obtain ⟨x0, x1, x2, x3⟩ := cells3 HG.out.bx

  go_wp2_with fail
  refine (toBuild_at s a p c d _ HG.out.sx hl).mono ?_
  rintro e v3 ⟨g3, h3, rfl, t3, hb3⟩
  have ST := Hid.mk' (HG.out.below hb3).st
  have T3 := Hid.mk' t3
  have HB3 := Hid.mk' hb3
  clear t3 hb3 x0 x1 x2 x3
  go_wp2_with fail
  refine (toTokenW q c' l _ ST.out hm).mono ?_
  rintro e v4 ⟨rfl, t4⟩
  have hb4 := t4.bl
  have T3 := Hid.mk' (T3.out.below hb4)
  have HB4 := Hid.mk' (HB3.out.trans (hb4.mono HB3.out.size))
  have T4 := Hid.mk' t4.tr.atB
  have T4t := Hid.mk' t4.tr.at
  clear t4 hb4 HB3 ST
  go_wp2_with fail
  refine (KI0.out _ _ _ _ _ _ _ T3.out T4t.out).mono ?_
  rintro e wH ⟨τH, vnH, voH, vaH, vtH, usH, rfl, qH, capH, hbH⟩
  obtain ⟨aH, cH, pH, dH, rfl, rfl, sH⟩ := qH.at
  have NH := below_new wH (.cells #[.int .i64 C, .slice aH R.nd.length cH, .slice pH R.op.length dH, .bool R.lg] 35)
  have hb35 : Below wG.heap.size wG wH := HB4.out.trans (hbH.mono HB4.out.size)
  have BX := hb35.trans (NH.mono hb35.size)
  have RX := row4 wH 35 (.int .i64 C) (.slice aH R.nd.length cH) (.slice pH R.op.length dH) (.bool R.lg)
  have SX := sH.below NH

  have B5 := Hid.mk' (B5.out.trans (BX.mono B5.out.size))
  have GF := Hid.mk' (GF.out.below BX)
  have RHh := Hid.mk' RX
  have SH := Hid.mk' SX
  clear BX RX SX hb35 NH qH capH hbH sH T3 T4 T4t HB4 KI0 HG
  generalize hWH : wH.alloc (.cells #[.int .i64 C, .slice aH R.nd.length cH, .slice pH R.op.length dH, .bool R.lg] 35) = WH at *
  obtain ⟨e0, e1, e2, e3, e4⟩ := cells4 RHh.out
  obtain ⟨k0, k1, k2, k3, k4⟩ := cells4 (rowB RW.out B5.out)
  go_wp2_with fail
  clear hWH
  refine (eqBRes_is C R aH pH a5 p5 cH dH c5 d5 WH SH.out (SW.out.below B5.out) nR0 oR0).mono ?_
  rintro e wI ⟨rfl, hb⟩
  have B5 := Hid.mk' (B5.out.trans (hb.mono B5.out.size))
  have GF := Hid.mk' (GF.out.below hb)
  clear hb e0 e1 e2 e3 e4 k0 k1 k2 k3 k4
  obtain ⟨e0, e1, e2, e3, e4⟩ := cells4 GF.out.box
  go_wp2_with fail
  refine (heldBRes_is C R a8 p8 c8 d8 wI GF.out.sq.sat (by omega) oR0).mono ?_
  rintro e wJ ⟨rfl, hb⟩
  have B5 := Hid.mk' (B5.out.trans (hb.mono B5.out.size))
  clear hb e0 e1 e2 e3 e4
  go_wp2
  go_ret
  exact ⟨rfl, HB.out.trans (B5.out.mono HB.out.size)⟩

end Go.Proofs.YtpcpnfpnkkjkcaaGreat

/- Boxes of two cells. -/
namespace Go.Proofs.YtpcpnfpnkkjkcaaGreat
open Go.RowKit
set_option linter.unusedVariables false

/-- The i-th of two cells. -/
def q2 (x y : Value) (i : Nat) : Value := if i = 0 then x else y

/-- A box of two cells. -/
theorem rowQ2 (w : World) (t : TypeId) (x y : Value) : (w.alloc (.cells #[x, y] t)).rowIs w.heap.size t 2 (q2 x y) :=
  World.rowIs_alloc w #[x, y] t _ (fun i hi => by
    have h : i = 0 ∨ i = 1 := by simp at hi; omega
    rcases h with rfl | rfl <;> simp [q2])

theorem cellsQ2 {w : World} {g : Nat} {ty : TypeId} {x y : Value} (h : w.rowIs g ty 2 (q2 x y)) : w.cell? ⟨g, 0, none⟩ = some x ∧ w.cell? ⟨g, 1, none⟩ = some y ∧ g < w.heap.size :=
  ⟨h.cell (by omega), h.cell (by omega), h.lt⟩

theorem frzQ2 {w : World} {g : Nat} {T : TypeId} {f : Nat → Value} (h : w.rowIs g T 2 f) : w.frozen? ⟨g, 0, none⟩ = false ∧ w.frozen? ⟨g, 1, none⟩ = false := ⟨h.frozen 0, h.frozen 1⟩

end Go.Proofs.YtpcpnfpnkkjkcaaGreat

/- BuildTree: both sides, and the law. -/
namespace Go.Proofs.YtpcpnfpnkkjkcaaGreat
open Go.RowKit
set_option linter.unusedVariables false
set_option linter.unusedSimpArgs false

/-- The code of tokens built from nothing, and their nodes. -/
def btC (l : List TK) : Int := if pallC noS l = 0 then (if (pallR noS l).lg = true then 6 else 0) else pallC noS l
def btN (l : List TK) : List ND := if pallC noS l = 0 then (if (pallR noS l).lg = true then [] else (pallR noS l).nd) else []

theorem bt_cases (l : List TK) : (¬ pallC noS l = 0 ∧ btC l = pallC noS l ∧ btN l = []) ∨ (pallC noS l = 0 ∧ (pallR noS l).lg = true ∧ btC l = 6 ∧ btN l = []) ∨ (pallC noS l = 0 ∧ (pallR noS l).lg = false ∧ btC l = 0 ∧ btN l = (pallR noS l).nd) := by
  unfold btC btN
  by_cases h : pallC noS l = 0
  · rw [if_pos h, if_pos h]
    cases hl : (pallR noS l).lg with
    | true => exact .inr (.inl ⟨h, rfl, by simp, by simp⟩)
    | false => exact .inr (.inr ⟨h, rfl, by simp, by simp⟩)
  · rw [if_neg h, if_neg h]
    exact .inl ⟨h, rfl, rfl⟩

/-- What BuildTree leaves. -/
def TreeQ (c : Int) (nd : List ND) (w : World) (e : Ending) (w' : World) : Prop := ∃ τ vn va vt us, e = .returned (.agg #[.int .i64 c, vn]) ∧ NQ τ w.heap.size w' vn nd va vt us ∧ (∀ k, ¬ (w.heap.size ≤ k ∧ k < w'.heap.size) → τ k = 2) ∧ Below w.heap.size w w'

theorem TreeQ.err {c : Int} {w w' : World} (hb : Below w.heap.size w w') : TreeQ c [] w (.returned (.agg #[.int .i64 c, .slice none 0 0])) w' :=
  ⟨fun _ => 2, _, fun _ => undef, fun _ => undef, fun _ => [], rfl, (NS.nil _ _ _ _ _ _).nq, fun _ _ => rfl, hb⟩

theorem NQ.lo {τ : Nat → Nat} {lo lo' : Nat} {w : World} {v : Value} {l : List ND} {va vt : Nat → Value} {us : Nat → List Value} (h : NQ τ lo w v l va vt us) (hl : lo' ≤ lo) : NQ τ lo' w v l va vt us :=
  ⟨own_of h.row hl (fun _ _ _ => rfl), fun j hj => (h.att j hj).keep hl (fun _ _ _ => rfl), h.txt, h.rl, h.al, h.ul, h.tl⟩

set_option maxRecDepth 100000 in
set_option maxHeartbeats 3200000 in
theorem implBT_any (l : List TK) (q : Option Addr) (c' : Nat) (w : World) (ht : TsAt w q l) (hm : (l.length : Int) + tssz l ≤ 1048576) :
    Calls Tryz.prog 26 #[.slice q l.length c'] w fun e w' => TreeQ (btC l) (btN l) w e w' := by
  have N0 := below_new w (.cells #[.int .i64 0, .slice none 0 0] 58)
  have KP0 : Calls Tryz.prog 22 #[.agg #[.slice none 0 0, .slice none 0 0, .bool false], .slice q l.length c'] _ fun e w' => PutP (pallC noS l) (pallR noS l) _ e w' := implAll_any noS l none none q 0 0 c' _ ⟨.inl rfl, .inl rfl⟩ (ht.below N0) (by simp [noS, nssz]) hm
  have HR := Hid.mk' (rowQ2 w 58 (.int .i64 0) (.slice none 0 0))
  have HN := Hid.mk' N0
  have HC := Hid.mk' (bt_cases l)
  have KP := Hid.mk' KP0
  clear ht N0 KP0
  obtain ⟨xb, hxb⟩ : ∃ xb, w.heap.size = xb := ⟨_, rfl⟩
  rw [hxb] at HR
  have XB := Hid.mk' hxb
  obtain ⟨C, hC⟩ : ∃ C, pallC noS l = C := ⟨_, rfl⟩
  obtain ⟨R, hR⟩ : ∃ R, pallR noS l = R := ⟨_, rfl⟩
  rw [hC, hR] at KP HC
  clear hC hR
  generalize hW : w.alloc (.cells #[.int .i64 0, .slice none 0 0] 58) = W at *
  go_enter Tryz.func26, Tryz.ntmps26
  go_wp2_with fail
  clear hW hxb
  refine KP.out.mono ?_
  rintro e w1 ⟨τ, vn, vo, va, vt, us, rfl, hq, hcap, hb⟩
  obtain ⟨an, cn, po, dn, rfl, rfl, hs⟩ := hq.at
  have N1 := below_new w1 (.cells #[.int .i64 C, .slice an R.nd.length cn, .slice po R.op.length dn, .bool R.lg] 35)
  have M1 := hb.trans (N1.mono hb.size)
  have R1 := rowB HR.out M1
  have RB := row4 w1 35 (.int .i64 C) (.slice an R.nd.length cn) (.slice po R.op.length dn) (.bool R.lg)
  have HQ := Hid.mk' (hq.ns.below N1)
  have HB := Hid.mk' (HN.out.trans (M1.mono HN.out.size))
  have CAP := Hid.mk' hcap
  have LT : Hid (xb < W.heap.size ∧ W.heap.size ≤ w1.heap.size) := Hid.mk' ⟨HR.out.lt, hb.size⟩
  have ZZ : Hid ((w1.alloc (.cells #[.int .i64 C, .slice an R.nd.length cn, .slice po R.op.length dn, .bool R.lg] 35)).heap.size = w1.heap.size + 1) := Hid.mk' (by simp)
  obtain ⟨x0, x1, x2⟩ := cellsQ2 R1
  obtain ⟨f0, f1⟩ := frzQ2 R1
  obtain ⟨y0, y1, y2, y3, y4⟩ := cells4 RB
  clear hq hcap hb hs N1 M1 R1 RB KP
  generalize hW1 : w1.alloc (.cells #[.int .i64 C, .slice an R.nd.length cn, .slice po R.op.length dn, .bool R.lg] 35) = W1 at *
  have hx := XB.out
  have KS : ∀ (u0 u1 : Value), KeptIn xb (xb + 1) W1 ((W1.setCell ⟨xb, 0, none⟩ u0).setCell ⟨xb, 1, none⟩ u1) := fun u0 u1 => ((KeptIn.refl _ _ W1).setCell (p := ⟨xb, 0, none⟩) (by simp) (by simp) u0).setCell (p := ⟨xb, 1, none⟩) (by simp) (by simp) u1
  have HKS := Hid.mk' KS
  have HXX := Hid.mk' hx
  clear KS hx
  rcases HC.out with ⟨h1, h2, h3⟩ | ⟨h1, h4, h2, h3⟩ | ⟨h1, h4, h2, h3⟩
  · have E2 := Hid.mk' h2
    have E3 := Hid.mk' h3
    clear h2 h3 HC
    go_wp2
    clear hW1
    refine bodyPost_ret (v := .agg #[.int .i64 C, .slice none 0 0]) (by simp [results, Tryz.results26, go_sem, *]) rfl ?_
    rw [E2.out, E3.out]
    exact TreeQ.err (HB.out.trans ((HKS.out _ _).below (by have := HXX.out; omega) HB.out.size))
  · have E2 := Hid.mk' h2
    have E3 := Hid.mk' h3
    rw [h4] at y3
    clear h2 h3 HC h4
    subst h1
    go_wp2
    clear hW1
    refine bodyPost_ret (v := .agg #[.int .i64 6, .slice none 0 0]) (by simp [results, Tryz.results26, go_sem, *]) rfl ?_
    rw [E2.out, E3.out]
    exact TreeQ.err (HB.out.trans ((HKS.out _ _).below (by have := HXX.out; omega) HB.out.size))
  · have E2 := Hid.mk' h2
    have E3 := Hid.mk' h3
    rw [h4] at y3
    clear h2 h3 HC h4
    subst h1
    go_wp2
    clear hW1
    refine bodyPost_ret (v := .agg #[.int .i64 0, .slice an R.nd.length cn]) (by simp [results, Tryz.results26, go_sem, *]) rfl ?_
    rw [E2.out, E3.out]
    have hx := HXX.out
    have lt := LT.out
    have zz := ZZ.out
    have KK := HKS.out (.int .i64 0) (.slice an R.nd.length cn)
    refine ⟨τ, _, va, vt, us, rfl, ((HQ.out.keep (Kp.of_kept KK (fun k e => ?_))).lo (by omega)), fun k hk => CAP.out k ?_, HB.out.trans (KK.below (by omega) HB.out.size)⟩
    · by_cases hk : k = xb
      · have := CAP.out k (by omega)
        omega
      · omega
    · have := KK.size
      omega

set_option maxRecDepth 100000 in
set_option maxHeartbeats 3200000 in
theorem specBT_any (l : List TK) (q : Option Addr) (c' : Nat) (w : World) (ht : TsB w q l) (hm : (l.length : Int) + tssz l ≤ 1048576) :
    Calls Tryz.prog 25 #[.slice q l.length c'] w fun e w' => TreeQ (btC l) (btN l) w e w' := by
  have N0 := below_new w (.cells #[.int .i64 0, .slice none 0 0] 58)
  have KP0 : Calls Tryz.prog 20 #[.agg #[.slice none 0 0, .slice none 0 0, .bool false], .slice q l.length c'] _ fun e w' => PutP (pallC noS l) (pallR noS l) _ e w' := specAll_any noS l none none q 0 0 c' _ ⟨.inl rfl, .inl rfl⟩ (ht.below N0) (by simp [noS, nssz]) hm
  have HR := Hid.mk' (rowQ2 w 58 (.int .i64 0) (.slice none 0 0))
  have HN := Hid.mk' N0
  have HC := Hid.mk' (bt_cases l)
  have KP := Hid.mk' KP0
  clear ht N0 KP0
  obtain ⟨xb, hxb⟩ : ∃ xb, w.heap.size = xb := ⟨_, rfl⟩
  rw [hxb] at HR
  have XB := Hid.mk' hxb
  obtain ⟨C, hC⟩ : ∃ C, pallC noS l = C := ⟨_, rfl⟩
  obtain ⟨R, hR⟩ : ∃ R, pallR noS l = R := ⟨_, rfl⟩
  rw [hC, hR] at KP HC
  clear hC hR
  generalize hW : w.alloc (.cells #[.int .i64 0, .slice none 0 0] 58) = W at *
  go_enter Tryz.func25, Tryz.ntmps25
  go_wp2_with fail
  clear hW hxb
  refine KP.out.mono ?_
  rintro e w1 ⟨τ, vn, vo, va, vt, us, rfl, hq, hcap, hb⟩
  obtain ⟨an, cn, po, dn, rfl, rfl, hs⟩ := hq.at
  have N1 := below_new w1 (.cells #[.int .i64 C, .slice an R.nd.length cn, .slice po R.op.length dn, .bool R.lg] 35)
  have M1 := hb.trans (N1.mono hb.size)
  have R1 := rowB HR.out M1
  have RB := row4 w1 35 (.int .i64 C) (.slice an R.nd.length cn) (.slice po R.op.length dn) (.bool R.lg)
  have HQ := Hid.mk' (hq.ns.below N1)
  have HB := Hid.mk' (HN.out.trans (M1.mono HN.out.size))
  have CAP := Hid.mk' hcap
  have LT : Hid (xb < W.heap.size ∧ W.heap.size ≤ w1.heap.size) := Hid.mk' ⟨HR.out.lt, hb.size⟩
  have ZZ : Hid ((w1.alloc (.cells #[.int .i64 C, .slice an R.nd.length cn, .slice po R.op.length dn, .bool R.lg] 35)).heap.size = w1.heap.size + 1) := Hid.mk' (by simp)
  obtain ⟨x0, x1, x2⟩ := cellsQ2 R1
  obtain ⟨f0, f1⟩ := frzQ2 R1
  obtain ⟨y0, y1, y2, y3, y4⟩ := cells4 RB
  clear hq hcap hb hs N1 M1 R1 RB KP
  generalize hW1 : w1.alloc (.cells #[.int .i64 C, .slice an R.nd.length cn, .slice po R.op.length dn, .bool R.lg] 35) = W1 at *
  have hx := XB.out
  have KS : ∀ (u0 u1 : Value), KeptIn xb (xb + 1) W1 ((W1.setCell ⟨xb, 0, none⟩ u0).setCell ⟨xb, 1, none⟩ u1) := fun u0 u1 => ((KeptIn.refl _ _ W1).setCell (p := ⟨xb, 0, none⟩) (by simp) (by simp) u0).setCell (p := ⟨xb, 1, none⟩) (by simp) (by simp) u1
  have HKS := Hid.mk' KS
  have HXX := Hid.mk' hx
  clear KS hx
  rcases HC.out with ⟨h1, h2, h3⟩ | ⟨h1, h4, h2, h3⟩ | ⟨h1, h4, h2, h3⟩
  · have E2 := Hid.mk' h2
    have E3 := Hid.mk' h3
    clear h2 h3 HC
    go_wp2
    clear hW1
    refine bodyPost_ret (v := .agg #[.int .i64 C, .slice none 0 0]) (by simp [results, Tryz.results25, go_sem, *]) rfl ?_
    rw [E2.out, E3.out]
    exact TreeQ.err (HB.out.trans ((HKS.out _ _).below (by have := HXX.out; omega) HB.out.size))
  · have E2 := Hid.mk' h2
    have E3 := Hid.mk' h3
    rw [h4] at y3
    clear h2 h3 HC h4
    subst h1
    go_wp2
    clear hW1
    refine bodyPost_ret (v := .agg #[.int .i64 6, .slice none 0 0]) (by simp [results, Tryz.results25, go_sem, *]) rfl ?_
    rw [E2.out, E3.out]
    exact TreeQ.err (HB.out.trans ((HKS.out _ _).below (by have := HXX.out; omega) HB.out.size))
  · have E2 := Hid.mk' h2
    have E3 := Hid.mk' h3
    rw [h4] at y3
    clear h2 h3 HC h4
    subst h1
    go_wp2
    clear hW1
    refine bodyPost_ret (v := .agg #[.int .i64 0, .slice an R.nd.length cn]) (by simp [results, Tryz.results25, go_sem, *]) rfl ?_
    rw [E2.out, E3.out]
    have hx := HXX.out
    have lt := LT.out
    have zz := ZZ.out
    have KK := HKS.out (.int .i64 0) (.slice an R.nd.length cn)
    refine ⟨τ, _, va, vt, us, rfl, ((HQ.out.keep (Kp.of_kept KK (fun k e => ?_))).lo (by omega)), fun k hk => CAP.out k ?_, HB.out.trans (KK.below (by omega) HB.out.size)⟩
    · by_cases hk : k = xb
      · have := CAP.out k (by omega)
        omega
      · omega
    · have := KK.size
      omega

end Go.Proofs.YtpcpnfpnkkjkcaaGreat

/- The law on BuildTree. -/
namespace Go.Proofs.YtpcpnfpnkkjkcaaGreat
open Go.RowKit
set_option linter.unusedVariables false
set_option linter.unusedSimpArgs false

set_option maxHeartbeats 1600000 in
theorem eqNRes_is (cc : Int) (l : List ND) (a b : Option Addr) (c d : Nat) (w : World) (ha : NsAt w a l) (hb : NsAt w b l) (hl : (l.length : Int) + nssz l ≤ 2000000) :
    Calls Tryz.prog 27 #[.agg #[.int .i64 cc, .slice a l.length c], .agg #[.int .i64 cc, .slice b l.length d]] w fun e w' => e = .returned (.bool true) ∧ Below w.heap.size w w' := by
  have B0 := (below_new w (.cells #[.int .i64 cc, .slice a l.length c] 58)).alloc (by simp) (.cells #[.int .i64 cc, .slice b l.length d] 58)
  have KK := Hid.mk' (eqNodeS_big a b c d l _ (ha.below B0) (hb.below B0) hl)
  have BB := Hid.mk' B0
  clear ha hb B0
  go_enter Tryz.func27, Tryz.ntmps27
  go_wp2_with fail
  refine KK.out.mono ?_
  rintro e w1 ⟨rfl, hb⟩
  have HB := Hid.mk' (BB.out.trans (hb.mono BB.out.size))
  clear hb KK
  go_wp2
  go_ret
  exact ⟨rfl, HB.out⟩

set_option maxHeartbeats 1600000 in
theorem markNRes_is (cc : Int) (τ : Nat → Nat) (lo : Nat) (vn : Value) (l : List ND) (va vt : Nat → Value) (us : Nat → List Value) (w : World) (h : NQ τ lo w vn l va vt us) (hlo : lo ≤ w.heap.size) (hl : (l.length : Int) + nssz l ≤ 2000000) :
    Calls Tryz.prog 28 #[.agg #[.int .i64 cc, vn], .int .i64 1] w fun e w' => e = .returned (.int .i64 ((1 + cnN l : Nat) : Int)) ∧ NQ τ lo w' vn (mkN 1 l) va vt us ∧ Kp (fun k => τ k = 2) w w' := by
  have N0 := below_new w (.cells #[.int .i64 cc, vn] 58)
  have KN := Hid.mk' (markNodeS_is τ 1 lo vn l va vt us _ (h.below N0) (Nat.le_trans hlo N0.size) (by omega) (by omega) hl)
  have HN := Hid.mk' N0
  obtain ⟨a, c, e1, _⟩ := h.at
  subst e1
  clear h N0
  go_enter Tryz.func28, Tryz.ntmps28
  go_wp2_with fail
  refine KN.out.mono ?_
  rintro e w1 ⟨rfl, h1, k1⟩
  have H1 := Hid.mk' h1
  have K1 : Hid (Kp (fun k => τ k = 2) w w1) := Hid.mk' ((Kp.of_below HN.out).trans (k1.mono (fun k e => .inr e)))
  clear h1 k1 KN
  go_wp2
  go_ret
  exact ⟨rfl, H1.out, K1.out⟩

set_option maxHeartbeats 1600000 in
theorem heldNRes_is (cc : Int) (l : List ND) (a : Option Addr) (c : Nat) (w : World) (h : NsAt w a (mkN 1 l)) (hl : (l.length : Int) + nssz l ≤ 2000000) :
    Calls Tryz.prog 29 #[.agg #[.int .i64 cc, .slice a l.length c], .int .i64 1] w fun e w' => e = .returned (.int .i64 ((1 + cnN l : Nat) : Int)) ∧ Below w.heap.size w w' := by
  have N0 := below_new w (.cells #[.int .i64 cc, .slice a l.length c] 58)
  have KN := Hid.mk' (heldNodeS_is 1 a c l _ (h.below N0) (by omega) (by omega) hl)
  have HN := Hid.mk' N0
  have z2 : ¬ (((1 + cnN l : Nat) : Int) < 0) := by omega
  clear h N0
  go_enter Tryz.func29, Tryz.ntmps29
  go_wp2_with fail
  refine KN.out.mono ?_
  rintro e w1 ⟨rfl, hb⟩
  have HB := Hid.mk' (HN.out.trans (hb.mono HN.out.size))
  clear hb KN
  go_wp2
  go_ret
  exact ⟨rfl, HB.out⟩

/-- What the law got. -/
structure GN (lo q : Nat) (τ : Nat → Nat) (vn : Value) (va vt : Nat → Value) (us : Nat → List Value) (C : Int) (R : List ND) (wi : World) : Prop where
  box : wi.rowIs q 58 2 (q2 (.int .i64 C) vn)
  sq : NQ τ lo wi vn R va vt us
  cap : ∀ k, ¬ (lo ≤ k ∧ k < q) → τ k = 2
  lq : lo ≤ q

theorem GN.below {lo q : Nat} {τ : Nat → Nat} {vn : Value} {va vt : Nat → Value} {us : Nat → List Value} {C : Int} {R : List ND} {wi wj : World} (h : GN lo q τ vn va vt us C R wi) (hb : Below wi.heap.size wi wj) : GN lo q τ vn va vt us C R wj := ⟨rowB h.box hb, h.sq.below hb, h.cap, h.lq⟩

theorem GN.kept {lo q lo' hi' : Nat} {τ : Nat → Nat} {vn : Value} {va vt : Nat → Value} {us : Nat → List Value} {C : Int} {R : List ND} {wi wj : World} (h : GN lo q τ vn va vt us C R wi) (hk : KeptIn lo' hi' wi wj) (hd : hi' ≤ lo) : GN lo q τ vn va vt us C R wj :=
  ⟨rowK h.box hk (.inr (Nat.le_trans hd h.lq)), h.sq.keep (Kp.of_kept hk (fun k e => by
    have : lo ≤ k ∧ k < q := Classical.byContradiction (fun hn => by have := h.cap k hn; omega)
    omega)), h.cap, h.lq⟩

theorem GN.mk2 {lo q : Nat} {τ : Nat → Nat} {a : Option Addr} {c : Nat} {va vt : Nat → Value} {us : Nat → List Value} {C : Int} {R R' : List ND} {n : Nat} {wi : World} (h : GN lo q τ (.slice a n c) va vt us C R wi) (e : n = R.length) : NsAt wi a R := by
  obtain ⟨a', c', e', h'⟩ := h.sq.at
  injection e' with e1 e2 e3
  rw [e1]; exact h'

theorem bt_le (l : List TK) (hm : (l.length : Int) + tssz l ≤ 1048576) : ((btN l).length : Int) + nssz (btN l) ≤ 2000000 := by
  have h := (pallR_le noS l (by simp [noS, nssz]) (by simp [noS, nssz]; omega)).1
  rcases bt_cases l with ⟨_, _, e⟩ | ⟨_, _, _, e⟩ | ⟨_, _, _, e⟩
  · rw [e]; simp [nssz]
  · rw [e]; simp [nssz]
  · rw [e]; omega

set_option maxRecDepth 100000 in
set_option maxHeartbeats 12000000 in
/-- The law on BuildTree. -/
theorem lawBT_any (q : Option Addr) (c' : Nat) (l : List TK) (w : World) (ht : TsAt w q l) (wt : WideT l) (nt : (l.length : Int) ≤ 9223372036854775807) :
    Calls Tryz.prog 5 #[.slice q l.length c'] w fun e w' => e = .returned (.bool true) ∧ Below w.heap.size w w' := by
  have KT := szTokenS_any q c' l 1048576 w ht wt (by omega) (by omega) nt
  have HH := Hid.mk' ht
  clear ht wt
  by_cases g2 : 1048576 < (l.length : Int) + tssz l
  · rw [if_pos g2] at KT
    have KT := Hid.mk' KT
    go_enter Tryz.func5, Tryz.ntmps5
    go_wp2_with fail
    refine KT.out.mono ?_
    rintro e w2 ⟨rfl, hb2⟩
    have HB := Hid.mk' hb2
    clear hb2 KT
    go_wp2
    go_ret
    exact ⟨rfl, HB.out⟩
  rw [if_neg g2] at KT
  have KT := Hid.mk' KT
  have zy : ¬ (1048576 - (l.length : Int) - tssz l < 0) := by omega
  have hm : (l.length : Int) + tssz l ≤ 1048576 := by omega
  have nR0 := bt_le l hm
  have KS0 : Hid (∀ (q' : Option Addr) (c2 : Nat) (w' : World), TsB w' q' l → Calls Tryz.prog 25 #[.slice q' l.length c2] w' fun e w'' => TreeQ (btC l) (btN l) w' e w'') := fun q' c2 w' h2 => specBT_any l q' c2 w' h2 hm
  have KI0 : Hid (∀ (q' : Option Addr) (c2 : Nat) (w' : World), TsAt w' q' l → Calls Tryz.prog 26 #[.slice q' l.length c2] w' fun e w'' => TreeQ (btC l) (btN l) w' e w'') := fun q' c2 w' h2 => implBT_any l q' c2 w' h2 hm
  obtain ⟨C, hC⟩ : ∃ C, btC l = C := ⟨_, rfl⟩
  obtain ⟨R, hR⟩ : ∃ R, btN l = R := ⟨_, rfl⟩
  rw [hC, hR] at KS0 KI0
  rw [hR] at nR0
  clear g2 hC hR
  go_enter Tryz.func5, Tryz.ntmps5
  go_wp2_with fail
  refine KT.out.mono ?_
  rintro e w2 ⟨rfl, hb2⟩
  have HH := Hid.mk' (HH.out.below hb2)
  have HB := Hid.mk' hb2
  clear hb2 KT
  go_wp2_with fail
  refine (toTokenW q c' l w2 HH.out hm).mono ?_
  rintro e v4 ⟨rfl, t4⟩
  have HB4 := Hid.mk' t4.bl
  have T4 := Hid.mk' t4.tr.atB
  clear t4 zy
  go_wp2_with fail
  refine (KS0.out _ _ _ T4.out).mono ?_
  rintro e w5 ⟨τ5, vn5, va5, vt5, us5, rfl, q5, cap5, hb5⟩
  obtain ⟨a5, c5, rfl, s5⟩ := q5.at
  have N5 := below_new w5 (.cells #[.int .i64 C, .slice a5 R.length c5] 58)
  have hb35 : Below w2.heap.size w2 w5 := HB4.out.trans (hb5.mono HB4.out.size)
  have BX := hb35.trans (N5.mono hb35.size)
  have HH := Hid.mk' (HH.out.below BX)
  have HB := Hid.mk' (HB.out.trans (BX.mono HB.out.size))
  have RW := Hid.mk' (rowQ2 w5 58 (.int .i64 C) (.slice a5 R.length c5))
  have SW := Hid.mk' (s5.below N5)
  clear BX hb35 N5 q5 cap5 hb5 s5 T4 HB4 KS0
  generalize hW5 : w5.alloc (.cells #[.int .i64 C, .slice a5 R.length c5] 58) = W6 at *
  go_wp2_with fail
  clear hW5
  refine (toTokenW q c' l W6 HH.out hm).mono ?_
  rintro e w7 ⟨rfl, t7⟩
  have hb7 := t7.bl
  have B5 := Hid.mk' hb7
  have L7 : Hid (W6.heap.size ≤ w7.heap.size) := Hid.mk' hb7.size
  have X1 := Hid.mk' t7.tr.at
  obtain ⟨hj, j1, j2, tm⟩ := t7.tm
  have XM := Hid.mk' tm
  clear t7 hb7 tm
  go_wp2_with fail
  refine (KI0.out _ _ w7 X1.out).mono ?_
  rintro e w8 ⟨τ8, vn8, va8, vt8, us8, rfl, q8, cap8, hb8⟩
  obtain ⟨a8, c8, rfl, s8⟩ := q8.at
  have N8 := below_new w8 (.cells #[.int .i64 C, .slice a8 R.length c8] 58)
  have hb := hb8.trans (N8.mono hb8.size)
  have B5 := Hid.mk' (B5.out.trans (hb.mono B5.out.size))
  have X1 := Hid.mk' (X1.out.below hb)
  have XM := Hid.mk' (XM.out.keep hb.size (fun q _ _ hq => hb.block q hq))
  have G : Hid (GN w7.heap.size w8.heap.size τ8 (.slice a8 R.length c8) va8 vt8 us8 C R _) := Hid.mk' ⟨rowQ2 w8 58 (.int .i64 C) (.slice a8 R.length c8), q8.below N8, cap8, hb8.size⟩
  clear q8 cap8 hb8 s8 N8 hb
  generalize hW8 : w8.alloc (.cells #[.int .i64 C, .slice a8 R.length c8] 58) = W8 at *
  obtain ⟨e0, e1, e2⟩ := cellsQ2 G.out.box
  obtain ⟨k0, k1, k2⟩ := cellsQ2 (rowB RW.out B5.out)
  go_wp2_with fail
  clear hW8
  refine (eqNRes_is C R a8 a5 c8 c5 W8 (G.out.mk2 (R' := R) rfl) (SW.out.below B5.out) nR0).mono ?_
  rintro e w9 ⟨rfl, hb⟩
  have B5 := Hid.mk' (B5.out.trans (hb.mono B5.out.size))
  have X1 := Hid.mk' (X1.out.below hb)
  have XM := Hid.mk' (XM.out.keep hb.size (fun q _ _ hq => hb.block q hq))
  have G := Hid.mk' (G.out.below hb)
  clear hb e0 e1 e2 k0 k1 k2
  go_wp2_with fail
  refine (toTokenW q c' l w9 (HH.out.below B5.out) hm).mono ?_
  rintro e wK ⟨rfl, t9⟩
  have hb := t9.bl
  have T9 := Hid.mk' t9.tr.at
  have B5 := Hid.mk' (B5.out.trans (hb.mono B5.out.size))
  have X1 := Hid.mk' (X1.out.below hb)
  have XM := Hid.mk' (XM.out.keep hb.size (fun q _ _ hq => hb.block q hq))
  have G := Hid.mk' (G.out.below hb)
  clear hb t9
  go_wp2_with fail
  refine (eqTokenS_any _ _ _ _ l wK X1.out T9.out hm).mono ?_
  rintro e wB ⟨rfl, hb⟩
  have B5 := Hid.mk' (B5.out.trans (hb.mono B5.out.size))
  have XM := Hid.mk' (XM.out.keep hb.size (fun q _ _ hq => hb.block q hq))
  have G := Hid.mk' (G.out.below hb)
  clear hb T9 X1
  go_wp2_with fail
  refine (markTokenS_bd W6.heap.size hj l.length 1 l wB XM.out hm (by omega) (by omega)).mono ?_
  rintro e wD ⟨⟨y, rfl, y0, y1⟩, hk⟩
  have B5 := Hid.mk' (B5.out.trans (hk.below (Nat.le_refl _) B5.out.size))
  have G := Hid.mk' (G.out.kept hk j2)
  clear hk XM
  obtain ⟨e0, e1, e2⟩ := cellsQ2 G.out.box
  obtain ⟨k0, k1, k2⟩ := cellsQ2 (rowB RW.out B5.out)
  have kz : ¬ ((y : Int) < 0) := by omega
  go_wp2_with fail
  refine (eqNRes_is C R a8 a5 c8 c5 wD (G.out.mk2 (R' := R) rfl) (SW.out.below B5.out) nR0).mono ?_
  rintro e wE ⟨rfl, hb⟩
  have B5 := Hid.mk' (B5.out.trans (hb.mono B5.out.size))
  have G := Hid.mk' (G.out.below hb)
  clear hb e0 e1 e2 k0 k1 k2 kz
  obtain ⟨e0, e1, e2⟩ := cellsQ2 G.out.box
  go_wp2_with fail
  refine (markNRes_is C τ8 w7.heap.size (.slice a8 R.length c8) R va8 vt8 us8 wE G.out.sq (by have := G.out.box.lt; have := G.out.lq; omega) nR0).mono ?_
  rintro e wF ⟨rfl, q15, kp⟩
  have hk : KeptIn w7.heap.size w8.heap.size wE wF := kp.keptIn (fun k e => G.out.cap k (by omega))
  have GF : Hid (GN w7.heap.size w8.heap.size τ8 (.slice a8 R.length c8) va8 vt8 us8 C (mkN 1 R) wF) := Hid.mk' ⟨rowK G.out.box hk (.inr (Nat.le_refl _)), q15, G.out.cap, G.out.lq⟩
  have B5 := Hid.mk' (B5.out.trans (hk.below L7.out B5.out.size))
  have zm : ¬ (((1 + cnN R : Nat) : Int) < 0) := by omega
  clear q15 kp hk G e0 e1 e2
  obtain ⟨e0, e1, e2⟩ := cellsQ2 GF.out.box
  go_wp2_with fail
  refine (heldNRes_is C R a8 c8 wF (GF.out.mk2 (R' := R) (mkN_len 1 R).symm) nR0).mono ?_
  rintro e wG ⟨rfl, hb⟩
  have B5 := Hid.mk' (B5.out.trans (hb.mono B5.out.size))
  have GF := Hid.mk' (GF.out.below hb)
  clear hb e0 e1 e2
  go_wp2_with fail
  refine (toTokenW q c' l wG (HH.out.below B5.out) hm).mono ?_
  rintro e v4 ⟨rfl, t4⟩
  have HB4 := Hid.mk' t4.bl
  have T4t := Hid.mk' t4.tr.at
  clear t4
  go_wp2_with fail
  refine (KI0.out _ _ _ T4t.out).mono ?_
  rintro e wH ⟨τH, vnH, vaH, vtH, usH, rfl, qH, capH, hbH⟩
  obtain ⟨aH, cH, rfl, sH⟩ := qH.at
  have NH := below_new wH (.cells #[.int .i64 C, .slice aH R.length cH] 58)
  have hb35 : Below wG.heap.size wG wH := HB4.out.trans (hbH.mono HB4.out.size)
  have BX := hb35.trans (NH.mono hb35.size)
  have B5 := Hid.mk' (B5.out.trans (BX.mono B5.out.size))
  have GF := Hid.mk' (GF.out.below BX)
  have RHh := Hid.mk' (rowQ2 wH 58 (.int .i64 C) (.slice aH R.length cH))
  have SH := Hid.mk' (sH.below NH)
  clear BX hb35 NH qH capH hbH sH T4t HB4 KI0
  generalize hWH : wH.alloc (.cells #[.int .i64 C, .slice aH R.length cH] 58) = WH at *
  obtain ⟨e0, e1, e2⟩ := cellsQ2 RHh.out
  obtain ⟨k0, k1, k2⟩ := cellsQ2 (rowB RW.out B5.out)
  go_wp2_with fail
  clear hWH
  refine (eqNRes_is C R aH a5 cH c5 WH SH.out (SW.out.below B5.out) nR0).mono ?_
  rintro e wI ⟨rfl, hb⟩
  have B5 := Hid.mk' (B5.out.trans (hb.mono B5.out.size))
  have GF := Hid.mk' (GF.out.below hb)
  clear hb e0 e1 e2 k0 k1 k2
  obtain ⟨e0, e1, e2⟩ := cellsQ2 GF.out.box
  go_wp2_with fail
  refine (heldNRes_is C R a8 c8 wI (GF.out.mk2 (R' := R) (mkN_len 1 R).symm) nR0).mono ?_
  rintro e wJ ⟨rfl, hb⟩
  have B5 := Hid.mk' (B5.out.trans (hb.mono B5.out.size))
  clear hb e0 e1 e2
  go_wp2
  go_ret
  exact ⟨rfl, HB.out.trans (B5.out.mono HB.out.size)⟩

end Go.Proofs.YtpcpnfpnkkjkcaaGreat

/- From the reading of an argument to tokens that lie in memory. -/
namespace Go.Proofs.YtpcpnfpnkkjkcaaGreat
open Go.ChangeShapes Go.WideShapes Go.ChangeAt Go.RowKit Go.Deep
set_option linter.unusedVariables false

theorem own : ownKnob Tryz.prog.godebug = none := by kernel_rfl

theorem laidOut : laidOutB Tryz.prog = true := by kernel_rfl

theorem Tryz.cells5 : Tryz.prog.cellsOf 5 = 1 := by kernel_rfl

theorem Tryz.cells4 : Tryz.prog.cellsOf 4 = 1 := by kernel_rfl

theorem Tryz.cells2 : Tryz.prog.cellsOf 2 = 1 := by kernel_rfl

theorem Tryz.cells9 : Tryz.prog.cellsOf 9 = 1 := by kernel_rfl

theorem Tryz.cells92 : Tryz.prog.cellsOf 92 = 2 := by kernel_rfl

theorem Tryz.cells28 : Tryz.prog.cellsOf 28 = 5 := by kernel_rfl

theorem Tryz.cells87 : Tryz.prog.cellsOf 87 = 1 := by kernel_rfl

theorem Tryz.cells26 : Tryz.prog.cellsOf 26 = 1 := by kernel_rfl

theorem cell_lt {w : World} {a : Addr} {v : Value} (h : w.cell? a = some v) : a.block < w.heap.size := by
  unfold World.cell? at h
  by_cases hb : a.block < w.heap.size
  · exact hb
  · rw [Array.getElem?_eq_none (by omega)] at h
    simp at h

/-- An address at which cells lie is plain. -/
theorem plain_addr {w : World} {a : Addr} {v : Value} (h : w.cell? a = some v) : ∃ b o, a = ⟨b, o, none⟩ := by
  obtain ⟨b, o, s⟩ := a
  have hs := World.cell?_spot h
  simp at hs
  subst hs
  exact ⟨b, o, rfl⟩

theorem open_bytes {H : Type} {enc : TypeId × Value → H} {W : World} {spare : Nat → Bool} {held : Bool} {fuel : Nat} {v : Value} {x : DataW H × List MemPlace} (h : DataW.trod enc Tryz.prog W 0 spare held fuel 87 [v] = some x) :
    ∃ a c l, v = .slice a l.length c ∧ BAt W a l ∧ (l.length : Int) ≤ 9223372036854775807 ∧ ∀ k, k < l.length → 0 ≤ l.getD k 0 ∧ l.getD k 0 ≤ 255 := by
  rcases open_ints Tryz.underlying87 Tryz.underlying5 Tryz.cells5 h with ⟨hcs, _⟩ | ⟨a, len, cap, zs, hcs, _, hl, hm, hz, _, hcell, hwz⟩
  · simp at hcs
    subst hcs
    exact ⟨none, 0, [], rfl, .inl rfl, by simp, by simp⟩
  · simp at hcs
    subst hcs
    have hlz : len ≤ zs.length := by rw [hz]; split <;> omega
    have hlen : (zs.take len).length = len := by rw [List.length_take]; omega
    unfold maxLen at hm
    refine ⟨some a, cap, zs.take len, by rw [hlen], ?_, by rw [hlen]; omega, fun k hk => ?_⟩
    · by_cases h0 : len = 0
      · left; subst h0; simp
      · right
        have c0 := hcell 0 (by omega)
        have e0 : a.add 0 = a := by unfold Addr.add; split <;> simp_all
        rw [e0] at c0
        obtain ⟨b, o, rfl⟩ := plain_addr c0
        refine ⟨b, o, rfl, cell_lt c0, fun k hk => ?_⟩
        rw [hlen] at hk
        have ck := hcell k (by omega)
        rw [Addr.add_mid] at ck
        rw [ck]
        unfold bv
        congr 2
        simp [hk]
    · rw [hlen] at hk
      have e : (zs.take len).getD k 0 = zs[k]'(by omega) := by simp [hk, show k < zs.length from by omega]
      rw [e]
      exact bounds_u8 (hwz _ (List.getElem_mem _))

set_option maxRecDepth 100000 in
theorem open_attrs {H : Type} {enc : TypeId × Value → H} {W : World} {spare : Nat → Bool} {held : Bool} {fuel : Nat} {v : Value} {x : DataW H × List MemPlace} (h : DataW.trod enc Tryz.prog W 0 spare held fuel 26 [v] = some x) :
    ∃ a c l, v = .slice a l.length c ∧ AAt W a l ∧ (l.length : Int) ≤ 9223372036854775807 ∧ Wide l := by
  rcases Deep.open_slice Tryz.underlying26 h with ⟨hcs, _⟩ | ⟨a, len, cap, m, n, D, Pl, hcs, _, hl, hm, hmm, _, hx⟩
  · simp at hcs
    subst hcs
    exact ⟨none, 0, [], rfl, .inl rfl, by simp, fun k hk => absurd hk (Nat.not_lt_zero _)⟩
  · simp at hcs
    subst hcs
    have hlm : len ≤ m := by rw [hmm]; split <;> omega
    have each : ∀ i, i < len → ∃ p : AT, W.cell? (a.add (i * 2)) = some (.string p.nm) ∧ (∃ q c, W.cell? (a.add (i * 2 + 1)) = some (.slice q p.vl.length c) ∧ BAt W q p.vl) ∧ (p.nm.size : Int) ≤ 9223372036854775807 ∧ (p.vl.length : Int) ≤ 9223372036854775807 := by
      intro i hi
      obtain ⟨cs', h1, h2⟩ := hx i (by omega)
      rw [Tryz.cells92] at h1
      obtain ⟨_, hlen, hcell⟩ := World.cells?_some h1
      obtain ⟨y0, y1, n', _, _, t0, t1⟩ := trod_struct2 Tryz.underlying92 h2
      match cs', hlen with
      | [u0, u1], _ =>
        simp [Tryz.cells9, Tryz.cells87] at t0 t1
        obtain ⟨s, e0, _, ws⟩ := DataW.trod_string Tryz.underlying9 t0
        obtain ⟨q, c, l, rfl, hb, hm2, _⟩ := open_bytes t1
        simp at e0
        subst e0
        have q0 := hcell 0 (by omega)
        have q1 := hcell 1 (by omega)
        rw [Deep.add_add] at q0 q1
        exact ⟨⟨s, l⟩, by simpa using q0, ⟨q, c, by simpa using q1, hb⟩, by unfold maxLen at ws; show (s.size : Int) ≤ 9223372036854775807; omega, hm2⟩
    obtain ⟨q, hq⟩ := @Deep.choose_lt AT ⟨⟨⟨#[]⟩, []⟩⟩ _ _ each
    have hlen : ((List.range len).map q).length = len := by simp
    have hpc : ∀ k, k < len → atK ((List.range len).map q) k = q k := fun k hk => by unfold atK; simp [hk]
    unfold maxLen at hm
    refine ⟨some a, cap, (List.range len).map q, by rw [hlen], ?_, by rw [hlen]; omega, fun k hk => ?_⟩
    · by_cases h0 : len = 0
      · left; subst h0; simp
      · right
        have c0 := (hq 0 (by omega)).1
        have e0 : a.add (0 * 2) = a := by unfold Addr.add; split <;> simp_all
        rw [e0] at c0
        obtain ⟨b, o, rfl⟩ := plain_addr c0
        refine ⟨b, o, rfl, cell_lt c0, fun k hk => ?_⟩
        rw [hlen] at hk
        obtain ⟨k0, ⟨p, c, k1, k2⟩, _⟩ := hq k hk
        rw [Addr.add_mid] at k0 k1
        rw [hpc k hk]
        exact ⟨k0, p, c, k1, k2⟩
    · rw [hlen] at hk
      rw [hpc k hk]
      exact (hq k hk).2.2

theorem array5 {α : Type} {cs : Array α} (h : cs.size = 5) : ∃ c0 c1 c2 c3 c4, cs = #[c0, c1, c2, c3, c4] := by
  obtain ⟨l⟩ := cs
  match l, h with
  | [c0, c1, c2, c3, c4], _ => exact ⟨c0, c1, c2, c3, c4, rfl⟩

set_option maxRecDepth 100000 in
/-- What a law is told of a token that came in. -/
theorem open_token {H : Type} {enc : TypeId × Value → H} {W : World} {base : Nat} {spare : Nat → Bool} {held : Bool} {v : Value} {d : DataW H} {p : List MemPlace}
    (hv : Value.okWide Tryz.prog W .any base 28 v) (h : DataW.Trod enc Tryz.prog W 0 spare held 28 v d p) :
    ∃ (t : TK) (a : Option Addr) (c : Nat), v = .agg #[.int .i64 t.kd, .int .i64 t.by_, .string t.nm, .slice a t.at_.length c, .bool t.sh] ∧ AAt W a t.at_ ∧ Wide t.at_ ∧ (t.nm.size : Int) ≤ 9223372036854775807 ∧ (t.at_.length : Int) ≤ 9223372036854775807 := by
  obtain ⟨cs, rfl, hsz⟩ := okWide_struct Tryz.underlying28 hv
  obtain ⟨v0, v1, v2, v3, v4, rfl⟩ := array5 (hsz.trans Tryz.cells28)
  obtain ⟨fuel, hf⟩ := h
  obtain ⟨xs, n, _, _, hl, hlen, hfs⟩ := DataW.trod_struct Tryz.underlying28 hf
  match xs, hlen with
  | [y0, y1, y2, y3, y4], _ =>
    have t0 := hfs 0 _ rfl
    have t1 := hfs 1 _ rfl
    have t2 := hfs 2 _ rfl
    have t3 := hfs 3 _ rfl
    have t4 := hfs 4 _ rfl
    simp [Value.cells, Tryz.cells2, Tryz.cells9, Tryz.cells4, Tryz.cells26] at t0 t1 t2 t3 t4
    obtain ⟨kd, e0, _, _⟩ := DataW.trod_int Tryz.underlying2 t0
    obtain ⟨by_, e1, _, _⟩ := DataW.trod_int Tryz.underlying2 t1
    obtain ⟨nm, e2, _, ws⟩ := DataW.trod_string Tryz.underlying9 t2
    obtain ⟨a, c, l, rfl, ha, hll, hw⟩ := open_attrs t3
    obtain ⟨sh, e4, _⟩ := DataW.trod_bool Tryz.underlying4 t4
    simp at e0 e1 e2 e4
    subst e0 e1 e2 e4
    exact ⟨⟨kd, by_, nm, l, sh⟩, a, c, rfl, ha, hw, by unfold maxLen at ws; show (nm.size : Int) ≤ 9223372036854775807; omega, hll⟩

end Go.Proofs.YtpcpnfpnkkjkcaaGreat

/- From the reading of an argument to lists of tokens that lie in memory. -/
namespace Go.Proofs.YtpcpnfpnkkjkcaaGreat
open Go.ChangeShapes Go.WideShapes Go.ChangeAt Go.RowKit Go.Deep
set_option maxRecDepth 100000
set_option linter.unusedVariables false

theorem open_tokens {H : Type} {enc : TypeId × Value → H} {W : World} {spare : Nat → Bool} {held : Bool} {fuel : Nat} {v : Value} {x : DataW H × List MemPlace} (h : DataW.trod enc Tryz.prog W 0 spare held fuel 49 [v] = some x) :
    ∃ a c l, v = .slice a l.length c ∧ TsAt W a l ∧ WideT l ∧ (l.length : Int) ≤ 9223372036854775807 := by
  rcases Deep.open_slice Tryz.underlying49 h with ⟨hcs, _⟩ | ⟨a, len, cap, m, n, D, Pl, hcs, _, hl, hm, hmm, _, hx⟩
  · simp at hcs
    subst hcs
    exact ⟨none, 0, [], rfl, .inl rfl, fun k hk => absurd hk (Nat.not_lt_zero _), by simp⟩
  · simp at hcs
    subst hcs
    have hlm : len ≤ m := by rw [hmm]; split <;> omega
    have each : ∀ i, i < len → ∃ t : TK, W.cell? (a.add (i * 5)) = some (.int .i64 t.kd) ∧ W.cell? (a.add (i * 5 + 1)) = some (.int .i64 t.by_) ∧ W.cell? (a.add (i * 5 + 2)) = some (.string t.nm) ∧ (∃ q c, W.cell? (a.add (i * 5 + 3)) = some (.slice q t.at_.length c) ∧ AAt W q t.at_) ∧ W.cell? (a.add (i * 5 + 4)) = some (.bool t.sh) ∧ Wide t.at_ ∧ (t.nm.size : Int) ≤ 9223372036854775807 ∧ (t.at_.length : Int) ≤ 9223372036854775807 := by
      intro i hi
      obtain ⟨cs', h1, h2⟩ := hx i (by omega)
      rw [Tryz.cells28] at h1
      obtain ⟨_, hlen, hcell⟩ := World.cells?_some h1
      obtain ⟨xs, n', _, _, hl', hlen', hfs⟩ := DataW.trod_struct Tryz.underlying28 h2
      match cs', hlen with
      | [u0, u1, u2, u3, u4], _ =>
      match xs, hlen' with
      | [z0, z1, z2, z3, z4], _ =>
        have t0 := hfs 0 _ rfl
        have t1 := hfs 1 _ rfl
        have t2 := hfs 2 _ rfl
        have t3 := hfs 3 _ rfl
        have t4 := hfs 4 _ rfl
        simp [Tryz.cells2, Tryz.cells9, Tryz.cells4, Tryz.cells26] at t0 t1 t2 t3 t4
        obtain ⟨kd, e0, _, _⟩ := DataW.trod_int Tryz.underlying2 t0
        obtain ⟨by_, e1, _, _⟩ := DataW.trod_int Tryz.underlying2 t1
        obtain ⟨nm, e2, _, ws⟩ := DataW.trod_string Tryz.underlying9 t2
        obtain ⟨q, c, l, rfl, ha, hll, hw⟩ := open_attrs t3
        obtain ⟨sh, e4, _⟩ := DataW.trod_bool Tryz.underlying4 t4
        simp at e0 e1 e2 e4
        subst e0 e1 e2 e4
        have q0 := hcell 0 (by omega)
        have q1 := hcell 1 (by omega)
        have q2 := hcell 2 (by omega)
        have q3 := hcell 3 (by omega)
        have q4 := hcell 4 (by omega)
        rw [Deep.add_add] at q0 q1 q2 q3 q4
        exact ⟨⟨kd, by_, nm, l, sh⟩, by simpa using q0, by simpa using q1, by simpa using q2, ⟨q, c, by simpa using q3, ha⟩, by simpa using q4, hw, by unfold maxLen at ws; show (nm.size : Int) ≤ 9223372036854775807; omega, hll⟩
    obtain ⟨q, hq⟩ := @Deep.choose_lt TK ⟨⟨0, 0, ⟨#[]⟩, [], false⟩⟩ _ _ each
    have hlen : ((List.range len).map q).length = len := by simp
    have hpc : ∀ k, k < len → tkK ((List.range len).map q) k = q k := fun k hk => by unfold tkK; simp [hk]
    unfold maxLen at hm
    refine ⟨some a, cap, (List.range len).map q, by rw [hlen], ?_, fun k hk => ?_, by rw [hlen]; omega⟩
    · by_cases h0 : len = 0
      · left; subst h0; simp
      · right
        have c0 := (hq 0 (by omega)).1
        have e0 : a.add (0 * 5) = a := by unfold Addr.add; split <;> simp_all
        rw [e0] at c0
        obtain ⟨b, o, rfl⟩ := plain_addr c0
        refine ⟨b, o, rfl, cell_lt c0, fun k hk => ?_⟩
        rw [hlen] at hk
        obtain ⟨k0, k1, k2, ⟨p, c, k3, k4⟩, k5, _⟩ := hq k hk
        rw [Addr.add_mid] at k0 k1 k2 k3 k5
        rw [hpc k hk]
        exact ⟨k0, k1, k2, ⟨p, c, k3, k4⟩, k5⟩
    · rw [hlen] at hk
      rw [hpc k hk]
      exact (hq k hk).2.2.2.2.2

/-- What a law is told of a list of tokens that came in. -/
theorem open_tokensV {H : Type} {enc : TypeId × Value → H} {W : World} {base : Nat} {spare : Nat → Bool} {held : Bool} {v : Value} {d : DataW H} {p : List MemPlace}
    (hv : Value.okWide Tryz.prog W .any base 49 v) (h : DataW.Trod enc Tryz.prog W 0 spare held 49 v d p) :
    ∃ a c l, v = .slice a l.length c ∧ TsAt W a l ∧ WideT l ∧ (l.length : Int) ≤ 9223372036854775807 := by
  obtain ⟨a0, len, cap, rfl⟩ := okWide_slice Tryz.underlying49 hv
  obtain ⟨fuel, hf⟩ := h
  exact open_tokens (by simpa [Value.cells] using hf)

end Go.Proofs.YtpcpnfpnkkjkcaaGreat
