/- The law on TokensOf. -/
import Derived.Test.YtkiinnmindmnbaaGreatDoorC40
import Derived.Test.YtkiinnmindmnbaaGreatDoorC41
set_option linter.unusedVariables false
set_option linter.unusedSimpArgs false
namespace Go.Proofs.YtkiinnmindmnbaaGreatDoor
open Go.RowKit

theorem TP.nil (lo : Nat) (w : World) : TP lo w (.slice none 0 0) [] [] (fun _ => []) (fun _ => 0) (fun _ => 0) := ⟨⟨rfl, .inl ⟨rfl, rfl⟩⟩, TA.nil _ _ _, fun j h => absurd h (Nat.not_lt_zero _)⟩

structure GL (lo q : Nat) (v : Value) (us : List Value) (rs : Nat → List Value) (bl bh : Nat → Nat) (C : Int) (R : List TK) (wi : World) : Prop where
  box : wi.rowIs q 57 3 (r3 (.int .i64 C) v (.slice none 0 0))
  tp : TP lo wi v R us rs bl bh
  cap : ∀ k, ¬ (lo ≤ k ∧ k < q) → TFree v R.length bl bh k
  lq : lo ≤ q

theorem GL.below {lo q : Nat} {v : Value} {us : List Value} {rs : Nat → List Value} {bl bh : Nat → Nat} {C : Int} {R : List TK} {wi wj : World} (h : GL lo q v us rs bl bh C R wi) (hb : Below wi.heap.size wi wj) : GL lo q v us rs bl bh C R wj := ⟨rowB h.box hb, h.tp.below hb, h.cap, h.lq⟩

theorem GL.kept {lo q lo' hi' : Nat} {v : Value} {us : List Value} {rs : Nat → List Value} {bl bh : Nat → Nat} {C : Int} {R : List TK} {wi wj : World} (h : GL lo q v us rs bl bh C R wi) (hk : KeptIn lo' hi' wi wj) (hd : hi' ≤ lo) : GL lo q v us rs bl bh C R wj :=
  ⟨rowK h.box hk (.inr (Nat.le_trans hd h.lq)), h.tp.keep hk.size (fun k h1 h2 => hk.block k h2 (.inr (by omega))), h.cap, h.lq⟩

theorem GL.at {lo q : Nat} {a : Option Addr} {n c : Nat} {us : List Value} {rs : Nat → List Value} {bl bh : Nat → Nat} {C : Int} {R : List TK} {wi : World} (h : GL lo q (.slice a n c) us rs bl bh C R wi) : TsAt wi a R := by
  obtain ⟨a', c', e', h'⟩ := h.tp.tsAt
  injection e' with e1 e2 e3
  rw [e1]; exact h'

theorem tssz_bytesT : ∀ (l : List Int), tssz (bytesT l) = 0
  | [] => rfl
  | x :: l => by
    have e : bytesT (x :: l) = bytesT [x] ++ bytesT l := rfl
    rw [e, tssz_app, tssz_bytesT l]
    rfl

theorem toL_le (m : ME) (hm : (msz m : Int) ≤ 1048576) : ((toL m).length : Int) + tssz (toL m) ≤ 1048576 := by
  have MS_ : (msz m : Int) = m.dt.length + m.tk.length + tssz m.tk + m.hd.length + m.cs.length + csz m.cs := by unfold msz; omega
  unfold toL
  split
  · rw [tssz_app, tssz_bytesT, List.length_append, bytesT_len]
    omega
  · simp [tssz]

theorem ToP.q {m : ME} {w w' : World} {e : Ending} (h : ToP m w e w') : ∃ tv us rs bl bh, e = .returned (.agg #[.int .i64 (memF m), tv, .slice none 0 0]) ∧ TP w.heap.size w' tv (toL m) us rs bl bh ∧ Below w.heap.size w w' := by
  rcases h with ⟨h0, rfl, hb⟩ | ⟨h0, tv, us, rs, bl, bh, rfl, ht, hb⟩
  · have e : toL m = [] := by unfold toL; rw [if_neg h0]
    exact ⟨_, _, _, _, _, rfl, by rw [e]; exact TP.nil _ _, hb⟩
  · exact ⟨_, _, _, _, _, by rw [h0], ht, hb⟩

set_option maxRecDepth 100000 in
set_option maxHeartbeats 12800000 in
theorem lawTO_any (m : ME) (a t u c : Option Addr) (ca ct cu cc : Nat) (tp : TypeId) (pv : Value) (w : World) (hE : Env w.heap.size tp pv w) (ha : MAt w a t u c m) (wa : WideM m) (hub : Byt m.dt) (hhb : Byt m.hd) (htb : TBt m.tk) :
    Calls Tryz.prog 6 #[.agg #[.slice a m.dt.length ca, .int .i64 m.st, .slice t m.tk.length ct, .slice u m.hd.length cu, .slice c m.cs.length cc]] w fun e w' => e = .returned (.bool true) ∧ Below w.heap.size w w' := by
  have B0 := below_new w (.cells #[.slice a m.dt.length ca, .int .i64 m.st, .slice t m.tk.length ct, .slice u m.hd.length cu, .slice c m.cs.length cc] 39)
  have KS := szMemo_any m a t u c ca ct cu cc 1048576 _ (ha.below B0) wa (by omega) (by omega)
  have HA := Hid.mk' ha
  have HB := Hid.mk' B0
  have R1 := Hid.mk' (row5 w 39 (.slice a m.dt.length ca) (.int .i64 m.st) (.slice t m.tk.length ct) (.slice u m.hd.length cu) (.slice c m.cs.length cc))
  have HE := Hid.mk' hE
  clear B0 ha wa hE
  by_cases g1 : (1048576 : Int) < msz m
  · rw [if_pos g1] at KS
    have KS := Hid.mk' KS
    clear hub hhb htb
    generalize hW : w.alloc (.cells #[.slice a m.dt.length ca, .int .i64 m.st, .slice t m.tk.length ct, .slice u m.hd.length cu, .slice c m.cs.length cc] 39) = W at *
    obtain ⟨x0, x1, x2, x3, x4, x5⟩ := cells5 R1.out
    go_enter Tryz.func6, Tryz.ntmps6
    go_wp2_with fail
    clear hW
    refine KS.out.mono ?_
    rintro e w1 ⟨rfl, hb1⟩
    have HB := Hid.mk' (HB.out.trans (hb1.mono HB.out.size))
    clear hb1 KS
    go_wp2
    go_ret
    exact ⟨rfl, HB.out⟩
  rw [if_neg g1] at KS
  have KS := Hid.mk' KS
  have zz : ¬ (1048576 - (msz m : Int) < 0) := by omega
  have hl : (msz m : Int) ≤ 1048576 := by omega
  have nR0 := toL_le m hl
  have KS0 : Hid (∀ (V : World) (a' t' u' c' : Option Addr), MAt V a' t' u' c' m → Calls Tryz.prog 26 #[.agg #[.slice a' m.dt.length m.dt.length, .int .i64 m.st, .slice t' m.tk.length m.tk.length, .slice u' m.hd.length m.hd.length, .slice c' m.cs.length m.cs.length]] V fun e w' => ∃ v d, e = .returned (.agg #[.int .i64 (memF m), .slice v (toL m).length d, .slice none 0 0]) ∧ TsAt w' v (toL m) ∧ Below V.heap.size V w') := Hid.mk' (fun V a' t' u' c' h => specTO_any m a' t' u' c' _ _ _ _ V h hub hhb htb hl)
  have KI0 : Hid (∀ (V : World) (a' t' u' c' : Option Addr), Env V.heap.size tp pv V → MAt V a' t' u' c' m → Calls Tryz.prog 27 #[.agg #[.slice a' m.dt.length m.dt.length, .int .i64 m.st, .slice t' m.tk.length m.tk.length, .slice u' m.hd.length m.hd.length, .slice c' m.cs.length m.cs.length]] V fun e w' => ∃ tv us rs bl bh, e = .returned (.agg #[.int .i64 (memF m), tv, .slice none 0 0]) ∧ TP V.heap.size w' tv (toL m) us rs bl bh ∧ Below V.heap.size V w') := Hid.mk' (fun V a' t' u' c' hE h => (implTO_any tp pv m a' t' u' c' _ _ _ _ V hE h (Nat.le_refl _) hub hhb htb hl).mono (fun _ _ h => h.q))
  clear hub hhb htb
  generalize memF m = C at *
  generalize toL m = R at *
  have ct_ := ctN_le R R.length
  rw [List.take_length] at ct_
  clear g1
  generalize hW : w.alloc (.cells #[.slice a m.dt.length ca, .int .i64 m.st, .slice t m.tk.length ct, .slice u m.hd.length cu, .slice c m.cs.length cc] 39) = W at *
  obtain ⟨x0, x1, x2, x3, x4, x5⟩ := cells5 R1.out
  go_enter Tryz.func6, Tryz.ntmps6
  go_wp2_with fail
  clear hW
  refine KS.out.mono ?_
  rintro e w1 ⟨rfl, hb1⟩
  have HB := Hid.mk' (HB.out.trans (hb1.mono HB.out.size))
  have R1 := Hid.mk' (rowB R1.out hb1)
  clear hb1 KS x0 x1 x2 x3 x4 x5
  obtain ⟨x0, x1, x2, x3, x4, x5⟩ := cells5 R1.out
  go_wp2_with fail
  clear zz
  refine (toMemo_any m a t u c ca ct cu cc _ (HA.out.below HB.out) hl).mono ?_
  rintro e w3 ⟨g3, h3, i3, j3, rfl, t3, hb3⟩
  have HB := Hid.mk' (HB.out.trans (hb3.mono HB.out.size))
  have R1 := Hid.mk' (rowB R1.out hb3)
  have KF := Hid.mk' (KS0.out w3 _ _ _ _ t3)
  clear hb3 t3 x0 x1 x2 x3 x4 x5 KS0
  obtain ⟨x0, x1, x2, x3, x4, x5⟩ := cells5 R1.out
  go_wp2_with fail
  refine KF.out.mono ?_
  rintro e w5 ⟨a5, c5, rfl, s5, hb5⟩
  have N5 := below_new w5 (.cells #[.int .i64 C, .slice a5 R.length c5, .slice none 0 0] 57)
  have M5 := hb5.trans (N5.mono hb5.size)
  have HB := Hid.mk' (HB.out.trans (M5.mono HB.out.size))
  have R1 := Hid.mk' (rowB R1.out M5)
  have RW := Hid.mk' (row3 w5 57 (.int .i64 C) (.slice a5 R.length c5) (.slice none 0 0))
  have SW := Hid.mk' (s5.below N5)
  clear hb5 N5 M5 s5 KF x0 x1 x2 x3 x4 x5
  obtain ⟨x0, x1, x2, x3, x4, x5⟩ := cells5 R1.out
  go_wp2_with fail
  generalize hW5 : w5.alloc (.cells #[.int .i64 C, .slice a5 R.length c5, .slice none 0 0] 57) = W5 at *
  have HBw5 := Hid.mk' HB.out.size
  clear hW5
  refine (toMemo_tw m a t u c ca ct cu cc _ (HA.out.below HB.out) hl).mono ?_
  rintro e w6 ⟨g6, h6, i6, j6, rfl, t6, hb6⟩
  have N6 := below_new w6 (.cells #[.slice (some ⟨g6, 0, none⟩) m.dt.length m.dt.length, .int .i64 m.st, .slice (some ⟨h6, 0, none⟩) m.tk.length m.tk.length, .slice (some ⟨i6, 0, none⟩) m.hd.length m.hd.length, .slice (some ⟨j6, 0, none⟩) m.cs.length m.cs.length] 26)
  have M6 := hb6.trans (N6.mono hb6.size)
  have D5 := Hid.mk' M6
  have Q6 := Hid.mk' (row5 w6 26 (.slice (some ⟨g6, 0, none⟩) m.dt.length m.dt.length) (.int .i64 m.st) (.slice (some ⟨h6, 0, none⟩) m.tk.length m.tk.length) (.slice (some ⟨i6, 0, none⟩) m.hd.length m.hd.length) (.slice (some ⟨j6, 0, none⟩) m.cs.length m.cs.length))
  have X6 := Hid.mk' (t6.below N6)
  have CM6 : Hid (CM j6 w6.heap.size m.cs (w6.alloc (.cells #[.slice (some ⟨g6, 0, none⟩) m.dt.length m.dt.length, .int .i64 m.st, .slice (some ⟨h6, 0, none⟩) m.tk.length m.tk.length, .slice (some ⟨i6, 0, none⟩) m.hd.length m.hd.length, .slice (some ⟨j6, 0, none⟩) m.cs.length m.cs.length] 26))) := Hid.mk' (t6.c.cm.keep (fun q _ h => N6.block q h))
  have S6 : Hid (W5.heap.size ≤ w6.heap.size) := Hid.mk' hb6.size
  have Z6 : Hid ((w6.alloc (.cells #[.slice (some ⟨g6, 0, none⟩) m.dt.length m.dt.length, .int .i64 m.st, .slice (some ⟨h6, 0, none⟩) m.tk.length m.tk.length, .slice (some ⟨i6, 0, none⟩) m.hd.length m.hd.length, .slice (some ⟨j6, 0, none⟩) m.cs.length m.cs.length] 26)).heap.size = w6.heap.size + 1) := Hid.mk' (by simp)
  clear hb6 t6 N6 M6 x0 x1 x2 x3 x4 x5
  generalize hW6 : w6.alloc (.cells #[.slice (some ⟨g6, 0, none⟩) m.dt.length m.dt.length, .int .i64 m.st, .slice (some ⟨h6, 0, none⟩) m.tk.length m.tk.length, .slice (some ⟨i6, 0, none⟩) m.hd.length m.hd.length, .slice (some ⟨j6, 0, none⟩) m.cs.length m.cs.length] 26) = W6 at *
  obtain ⟨x0, x1, x2, x3, x4, x5⟩ := cells5 Q6.out
  have HB6 := HB.out.trans (D5.out.mono HB.out.size)
  have KI := Hid.mk' (KI0.out W6 _ _ _ _ ((HE.out.keep HB6).up HB6.size (Nat.le_refl _)) X6.out.tw.at)
  clear HB6
  go_wp2_with fail
  clear hW6
  refine KI.out.mono ?_
  rintro e w8 ⟨v8, us8, rs8, bl8, bh8, rfl, t8, hb8⟩
  obtain ⟨a8, c8, rfl, -⟩ := own_src t8.row
  have N8 := below_new w8 (.cells #[.int .i64 C, .slice a8 R.length c8, .slice none 0 0] 57)
  have M8 := hb8.trans (N8.mono hb8.size)
  have CM6 := Hid.mk' (CM6.out.keep (fun q _ h => M8.block q (by have := Q6.out.lt; omega)))
  have X6 := Hid.mk' (X6.out.below M8)
  have D5 := Hid.mk' (D5.out.trans (M8.mono D5.out.size))
  have Q6 := Hid.mk' (rowB Q6.out M8)
  have G : Hid (GL W6.heap.size w8.heap.size (.slice a8 R.length c8) us8 rs8 bl8 bh8 C R _) := Hid.mk' ⟨row3 w8 57 (.int .i64 C) (.slice a8 R.length c8) (.slice none 0 0), t8.below N8, fun k hk => ⟨fun e => hk (t8.row.lt k e), fun j hj h2 => hk ⟨Nat.le_trans (t8.ta.low j hj) h2.1, Nat.lt_of_lt_of_le h2.2 (t8.ta.top j hj)⟩⟩, hb8.size⟩
  clear hb8 N8 M8 t8 KI x0 x1 x2 x3 x4 x5
  obtain ⟨e0, e1, e2, e3⟩ := cells3 G.out.box
  obtain ⟨k0, k1, k2, k3⟩ := cells3 (rowB RW.out D5.out)
  go_wp2_with fail
  generalize hW8 : w8.alloc (.cells #[.int .i64 C, .slice a8 R.length c8, .slice none 0 0] 57) = W8 at *
  clear hW8
  refine (eqLRes_is C R a8 a5 c8 c5 W8 G.out.at (SW.out.below D5.out) nR0).mono ?_
  rintro e w9 ⟨rfl, hb⟩
  have CM6 := Hid.mk' (CM6.out.keep (fun q _ h => hb.block q (by have := Q6.out.lt; omega)))
  have X6 := Hid.mk' (X6.out.below hb)
  have D5 := Hid.mk' (D5.out.trans (hb.mono D5.out.size))
  have G := Hid.mk' (G.out.below hb)
  have Q6 := Hid.mk' (rowB Q6.out hb)
  clear hb e0 e1 e2 e3 k0 k1 k2 k3
  obtain ⟨x0, x1, x2, x3, x4, x5⟩ := cells5 (rowB R1.out D5.out)
  obtain ⟨y0, y1, y2, y3, y4, y5⟩ := cells5 Q6.out
  have AA := Hid.mk' (HA.out.below (HB.out.trans (D5.out.mono HB.out.size)))
  have U8 := Hid.mk' X6.out.tw.at
  go_wp2_with (first | go_big_skip)
  go_region_held3 (fun w' => w'.cell? ⟨w.heap.size, 0, none⟩ = some (.slice a m.dt.length ca) ∧ w'.cell? ⟨w.heap.size, 1, none⟩ = some (.int .i64 m.st) ∧ w'.cell? ⟨w.heap.size, 2, none⟩ = some (.slice t m.tk.length ct) ∧ w'.cell? ⟨w.heap.size, 3, none⟩ = some (.slice u m.hd.length cu) ∧ w'.cell? ⟨w.heap.size, 4, none⟩ = some (.slice c m.cs.length cc) ∧ w'.cell? ⟨w6.heap.size, 0, none⟩ = some (.slice (some ⟨g6, 0, none⟩) m.dt.length m.dt.length) ∧ w'.cell? ⟨w6.heap.size, 1, none⟩ = some (.int .i64 m.st) ∧ w'.cell? ⟨w6.heap.size, 2, none⟩ = some (.slice (some ⟨h6, 0, none⟩) m.tk.length m.tk.length) ∧ w'.cell? ⟨w6.heap.size, 3, none⟩ = some (.slice (some ⟨i6, 0, none⟩) m.hd.length m.hd.length) ∧ w'.cell? ⟨w6.heap.size, 4, none⟩ = some (.slice (some ⟨j6, 0, none⟩) m.cs.length m.cs.length)) (simp [*])
    (first | (go_at_call 17; refine (toMemo_any m a t u c ca ct cu cc _ (AA.out.below (Below.refl _ _).drew) hl).mono ?_; rintro e wZ ⟨gZ, hZ, iZ, jZ, rfl, tZ, hbZ⟩; replace hbZ := undrew hbZ; obtain ⟨hx1, hx2⟩ := bcell hbZ; have z1 := hbZ.size; have z2 : w.heap.size < wZ.heap.size := (by omega); have z3 : w6.heap.size < wZ.heap.size := (by omega)) | (go_at_call 19; refine (eqMemo_any m _ _ _ _ _ _ _ _ _ _ _ _ _ _ _ _ _ (U8.out.below hbZ) tZ hl).mono ?_; rintro e wA ⟨rfl, hbA⟩; obtain ⟨hx3, hx4⟩ := bcell hbA))
  have hbR := hbZ.trans (hbA.mono hbZ.size)
  have CM6 := Hid.mk' (CM6.out.keep (fun q _ h => hbR.block q (by have := Q6.out.lt; omega)))
  have X6 := Hid.mk' (X6.out.below hbR)
  have D5 := Hid.mk' (D5.out.trans (hbR.mono D5.out.size))
  have G := Hid.mk' (G.out.below hbR)
  have Q6 := Hid.mk' (rowB Q6.out hbR)
  clear hx1 hx2 hx3 hx4 z1 z2 z3 hbZ hbA tZ hbR U8 AA x0 x1 x2 x3 x4 x5 y0 y1 y2 y3 y4 y5
  obtain ⟨y0, y1, y2, y3, y4, y5⟩ := cells5 Q6.out
  have KM := Hid.mk' (markMemo_hi _ _ _ _ _ m wA X6.out w6.heap.size CM6.out (by have := Q6.out.lt; omega) hl)
  go_wp2_with fail
  refine KM.out.mono ?_
  rintro e w12 ⟨⟨z, rfl, zp⟩, hk⟩
  have D5 := Hid.mk' (D5.out.trans (hk.below (Nat.le_refl _) D5.out.size))
  have G := Hid.mk' (G.out.kept hk (by have := Z6.out; omega))
  clear hk KM X6 CM6 Q6 y0 y1 y2 y3 y4 y5
  obtain ⟨e0, e1, e2, e3⟩ := cells3 G.out.box
  obtain ⟨k0, k1, k2, k3⟩ := cells3 (rowB RW.out D5.out)
  have zn : ¬ ((z : Int) < 0) := by omega
  go_wp2_with fail
  refine (eqLRes_is C R a8 a5 c8 c5 w12 G.out.at (SW.out.below D5.out) nR0).mono ?_
  rintro e w13 ⟨rfl, hb⟩
  have D5 := Hid.mk' (D5.out.trans (hb.mono D5.out.size))
  have G := Hid.mk' (G.out.below hb)
  clear hb e0 e1 e2 e3 k0 k1 k2 k3 zn
  obtain ⟨e0, e1, e2, e3⟩ := cells3 G.out.box
  go_wp2_with fail
  refine (markLRes_is C W6.heap.size (.slice a8 R.length c8) R us8 rs8 bl8 bh8 w13 G.out.tp (by have := G.out.box.lt; have := G.out.lq; omega) nR0).mono ?_
  rintro e w14 ⟨rfl, q15, kp⟩
  have hk : KeptIn W6.heap.size w8.heap.size w13 w14 := kp.keptIn (fun k e => G.out.cap k (by omega))
  have GF : Hid (GL W6.heap.size w8.heap.size (.slice a8 R.length c8) us8 rs8 bl8 bh8 C (mkT 1 R) w14) := Hid.mk' ⟨rowK G.out.box hk (.inr (Nat.le_refl _)), q15, by rw [mkT_len]; exact G.out.cap, G.out.lq⟩
  have D5 := Hid.mk' (D5.out.trans (hk.below (by have := S6.out; have := Z6.out; omega) D5.out.size))
  have zm : ¬ (((1 + ctN R : Nat) : Int) < 0) := by omega
  clear q15 kp hk G e0 e1 e2 e3
  obtain ⟨e0, e1, e2, e3⟩ := cells3 GF.out.box
  go_wp2_with fail
  refine (heldLRes_is C R a8 c8 w14 GF.out.at nR0).mono ?_
  rintro e w15 ⟨rfl, hb⟩
  have D5 := Hid.mk' (D5.out.trans (hb.mono D5.out.size))
  have GF := Hid.mk' (GF.out.below hb)
  clear hb e0 e1 e2 e3
  obtain ⟨x0, x1, x2, x3, x4, x5⟩ := cells5 (rowB R1.out D5.out)
  go_wp2_with fail
  refine (toMemo_any m a t u c ca ct cu cc _ (HA.out.below (HB.out.trans (D5.out.mono HB.out.size))) hl).mono ?_
  rintro e w16 ⟨g16, h16, i16, j16, rfl, t16, hb⟩
  have D5 := Hid.mk' (D5.out.trans (hb.mono D5.out.size))
  have GF := Hid.mk' (GF.out.below hb)
  have HB6 := HB.out.trans (D5.out.mono HB.out.size)
  have KI := Hid.mk' (KI0.out w16 _ _ _ _ ((HE.out.keep HB6).up HB6.size (Nat.le_refl _)) t16)
  clear hb t16 HB6 x0 x1 x2 x3 x4 x5
  go_wp2_with fail
  refine KI.out.mono ?_
  rintro e w17 ⟨v17, us17, rs17, bl17, bh17, rfl, t17, hb17⟩
  obtain ⟨a17, c17, rfl, s17⟩ := t17.tsAt
  have N17 := below_new w17 (.cells #[.int .i64 C, .slice a17 R.length c17, .slice none 0 0] 57)
  have hb := hb17.trans (N17.mono hb17.size)
  have D5 := Hid.mk' (D5.out.trans (hb.mono D5.out.size))
  have GF := Hid.mk' (GF.out.below hb)
  have RH := Hid.mk' (row3 w17 57 (.int .i64 C) (.slice a17 R.length c17) (.slice none 0 0))
  have SH := Hid.mk' (s17.below N17)
  clear hb hb17 N17 t17 s17 KI
  obtain ⟨e0, e1, e2, e3⟩ := cells3 RH.out
  obtain ⟨k0, k1, k2, k3⟩ := cells3 (rowB RW.out D5.out)
  go_wp2_with fail
  generalize hW17 : w17.alloc (.cells #[.int .i64 C, .slice a17 R.length c17, .slice none 0 0] 57) = W17 at *
  clear hW17
  refine (eqLRes_is C R a17 a5 c17 c5 W17 SH.out (SW.out.below D5.out) nR0).mono ?_
  rintro e w18 ⟨rfl, hb⟩
  have D5 := Hid.mk' (D5.out.trans (hb.mono D5.out.size))
  have GF := Hid.mk' (GF.out.below hb)
  clear hb e0 e1 e2 e3 k0 k1 k2 k3
  obtain ⟨e0, e1, e2, e3⟩ := cells3 GF.out.box
  go_wp2_with fail
  refine (heldLRes_is C R a8 c8 w18 GF.out.at nR0).mono ?_
  rintro e w19 ⟨rfl, hb⟩
  have D5 := Hid.mk' (D5.out.trans (hb.mono D5.out.size))
  clear hb e0 e1 e2 e3 GF
  go_wp2
  go_ret
  exact ⟨rfl, HB.out.trans (D5.out.mono HB.out.size)⟩

end Go.Proofs.YtkiinnmindmnbaaGreatDoor
