/- What a policy lets in: MayTag, both sides, and the law. -/
import Derived.Test.YtlhjkjhppjogbaaCf
import Derived.Deep.RegionHeld3
namespace Go.Proofs.Ytlhjkjhppjogbaa
open Go.RowKit Go.Maps
set_option linter.unusedVariables false
set_option linter.unusedSimpArgs false

/-- What a policy lets in, as three maps in blocks of one's own. -/
structure PM (p : PO) (lo b1 b2 b3 : Nat) (w : World) : Prop where
  t : WS w b1 (fun s => hasL p.tg s && hasL tagsL s)
  a : WS w b2 (fun s => hasL p.at_ s && hasL attrsL s)
  s : WS w b3 (fun s => hasL p.sc s && hasL schemesL s)
  l1 : lo ≤ b1
  l2 : lo ≤ b2
  l3 : lo ≤ b3

theorem PM.below {p : PO} {lo b1 b2 b3 : Nat} {w w' : World} (h : PM p lo b1 b2 b3 w) (hb : Below w.heap.size w w') : PM p lo b1 b2 b3 w' := ⟨h.t.below hb, h.a.below hb, h.s.below hb, h.l1, h.l2, h.l3⟩

theorem PM.keep {p : PO} {lo b1 b2 b3 lo' hi' : Nat} {w w' : World} (h : PM p lo b1 b2 b3 w) (hk : KeptIn lo' hi' w w') (hd : hi' ≤ lo) : PM p lo b1 b2 b3 w' :=
  ⟨h.t.block (hk.block _ h.t.lt (.inr (by have := h.l1; omega))), h.a.block (hk.block _ h.a.lt (.inr (by have := h.l2; omega))), h.s.block (hk.block _ h.s.lt (.inr (by have := h.l3; omega))), h.l1, h.l2, h.l3⟩

/-- What permitOf leaves. -/
def PermP (p : PO) (w : World) (e : Ending) (w' : World) : Prop :=
  (¬ polF p = 0 ∧ e = .returned (.tuple #[.agg #[.map none, .map none, .map none], .int .i64 (polF p)]) ∧ Below w.heap.size w w') ∨
  (polF p = 0 ∧ ∃ b1 b2 b3, e = .returned (.tuple #[.agg #[.map (some b1), .map (some b2), .map (some b3)], .int .i64 0]) ∧ PM p w.heap.size b1 b2 b3 w' ∧ Below w.heap.size w w')

/-- The boxes of permitOf. -/
theorem boxesM (w : World) (x0 x1 x2 : Value) :
    let W := (w.alloc (.cells #[x0, x1, x2] 27)).alloc (.cells #[.map none, .map none, .map none] 51)
    Below w.heap.size w W ∧ W.rowIs w.heap.size 27 3 (r3 x0 x1 x2) ∧ W.rowIs (w.heap.size + 1) 51 3 (r3 (.map none) (.map none) (.map none)) := by
  refine ⟨(below_new w _).alloc (by simp) _, (row3 w _ x0 x1 x2).alloc _, ?_⟩
  have := row3 (w.alloc (.cells #[x0, x1, x2] 27)) 51 (.map none) (.map none) (.map none)
  rw [show (w.alloc (.cells #[x0, x1, x2] 27)).heap.size = w.heap.size + 1 by simp] at this
  exact this

theorem safeTags_ex (w : World) : Calls Try.prog 27 #[] w fun e w' => ∃ g, e = .returned (.slice (some ⟨g, 0, none⟩) 6 6) ∧ w'.rowIs g 9 6 (sv tagsL) ∧ Below w.heap.size w w' :=
  (safeTags_any w).mono fun e w' ⟨h1, h2, h3⟩ => ⟨_, h1, h2, h3⟩

theorem safeAttrs_ex (w : World) : Calls Try.prog 39 #[] w fun e w' => ∃ g, e = .returned (.slice (some ⟨g, 0, none⟩) 4 4) ∧ w'.rowIs g 9 4 (sv attrsL) ∧ Below w.heap.size w w' :=
  (safeAttrs_any w).mono fun e w' ⟨h1, h2, h3⟩ => ⟨_, h1, h2, h3⟩

theorem safeSchemes_ex (w : World) : Calls Try.prog 40 #[] w fun e w' => ∃ g, e = .returned (.slice (some ⟨g, 0, none⟩) 3 3) ∧ w'.rowIs g 9 3 (sv schemesL) ∧ Below w.heap.size w w' :=
  (safeSchemes_any w).mono fun e w' ⟨h1, h2, h3⟩ => ⟨_, h1, h2, h3⟩

theorem letIn_ex (a b : Option Addr) (c d : Nat) (l safe : List ByteArray) (w : World) (ha : StAt w a l) (hb : StAt w b safe) (hl : (l.length : Int) + ssz l ≤ 1048576) (hm : (safe.length : Int) ≤ 1048576) :
    Calls Try.prog 38 #[.slice a l.length c, .slice b safe.length d] w fun e w' => ∃ m, e = .returned (.map (some m)) ∧ w.heap.size ≤ m ∧ WS w' m (fun s => hasL l s && hasL safe s) ∧ Below w.heap.size w w' :=
  (letIn_any a b c d l safe w ha hb hl hm).mono fun e w' ⟨h1, h2, h3⟩ => ⟨_, h1, Nat.le_refl _, h2, h3⟩

set_option maxRecDepth 100000 in
set_option maxHeartbeats 6400000 in
theorem permitOf_any (p : PO) (a b c : Option Addr) (n1 n2 n3 : Nat) (w : World) (ha : POAt w a b c p) (hl : (psz p : Int) ≤ 1048576) :
    Calls Try.prog 31 #[.agg #[.slice a p.tg.length n1, .slice b p.at_.length n2, .slice c p.sc.length n3]] w fun e w' => PermP p w e w' := by
  obtain ⟨N0, RX, RR⟩ := boxesM w (.slice a p.tg.length n1) (.slice b p.at_.length n2) (.slice c p.sc.length n3)
  have KF := Hid.mk' (implPF_any p a b c n1 n2 n3 _ (ha.below N0) hl)
  have HA := Hid.mk' (ha.below N0)
  have HB := Hid.mk' N0
  have HX := Hid.mk' RX
  have HR := Hid.mk' RR
  unfold psz at hl
  clear ha N0 RX RR
  generalize hW : (w.alloc (.cells #[.slice a p.tg.length n1, .slice b p.at_.length n2, .slice c p.sc.length n3] 27)).alloc (.cells #[.map none, .map none, .map none] 51) = W at *
  obtain ⟨x0, x1, x2, x3⟩ := cellsP HX.out
  go_enter Try.func31, Try.ntmps31
  go_wp2_with fail
  clear hW
  refine KF.out.mono ?_
  rintro e w1 ⟨rfl, hb⟩
  have HX := Hid.mk' (rowB HX.out hb)
  have HR := Hid.mk' (rowB HR.out hb)
  have HA := Hid.mk' (HA.out.below hb)
  have HB := Hid.mk' (HB.out.trans (hb.mono HB.out.size))
  clear hb KF x0 x1 x2 x3
  by_cases hp : polF p = 0
  · have HP := Hid.mk' hp
    rw [hp]
    clear hp
    obtain ⟨x0, x1, x2, x3⟩ := cellsP HX.out
    obtain ⟨y0, y1, y2, y3⟩ := cellsP HR.out
    obtain ⟨f0, f1, f2⟩ := frz3 HR.out
    have hbd : ∀ (m1 m2 m3 : Nat) (w : World), (Instr.build 51 #[(0, .map (some m1)), (1, .map (some m2)), (2, .map (some m3))]).run Try.prog w = .ok (.agg #[.map (some m1), .map (some m2), .map (some m3)]) w := fun _ _ _ _ => by go_simp
    go_wp2
    go_region_held3 (fun w' => w'.cell? ⟨w.heap.size, 0, none⟩ = some (.slice a p.tg.length n1) ∧ w'.cell? ⟨w.heap.size, 1, none⟩ = some (.slice b p.at_.length n2) ∧ w'.cell? ⟨w.heap.size, 2, none⟩ = some (.slice c p.sc.length n3) ∧ w'.frozen? ⟨w.heap.size + 1, 0, none⟩ = false ∧ w'.frozen? ⟨w.heap.size + 1, 1, none⟩ = false ∧ w'.frozen? ⟨w.heap.size + 1, 2, none⟩ = false) (simp [*, go_sem])
      (first | (go_at_call 27; refine (safeTags_ex _).mono ?_; rintro e v1 ⟨g1, rfl, rt1, hb1⟩; replace hb1 := undrew hb1; obtain ⟨hx1, hy1⟩ := bcell hb1; have z1 : w.heap.size + 1 < v1.heap.size := (by have := hb1.size; omega); have z1' : w.heap.size < v1.heap.size := (by omega)) | (go_at_call_of 38 (Value.slice (some ⟨g1, 0, none⟩) 6 6); refine (letIn_ex _ _ _ _ p.tg tagsL v1 (HA.out.below hb1).1 (.of_row rt1) (by omega) (by decide)).mono ?_; rintro e v2 ⟨m1, rfl, lm1, wsm1, hc2⟩; obtain ⟨hx2, hy2⟩ := bcell hc2; have hb2 := hb1.trans (hc2.mono hb1.size); have z2 : w.heap.size + 1 < v2.heap.size := (by have := hc2.size; omega); have z2' : w.heap.size < v2.heap.size := (by omega)) | (go_at_call 39; refine (safeAttrs_ex _).mono ?_; rintro e v3 ⟨g3, rfl, rt3, hc3⟩; obtain ⟨hx3, hy3⟩ := bcell hc3; have hb3 := hb2.trans (hc3.mono hb2.size); have z3 : w.heap.size + 1 < v3.heap.size := (by have := hc3.size; omega); have z3' : w.heap.size < v3.heap.size := (by omega)) | (go_at_call_of 38 (Value.slice (some ⟨g3, 0, none⟩) 4 4); refine (letIn_ex _ _ _ _ p.at_ attrsL v3 (HA.out.below hb3).2.1 (.of_row rt3) (by omega) (by decide)).mono ?_; rintro e v4 ⟨m2, rfl, lm2, wsm2, hc4⟩; obtain ⟨hx4, hy4⟩ := bcell hc4; have hb4 := hb3.trans (hc4.mono hb3.size); have z4 : w.heap.size + 1 < v4.heap.size := (by have := hc4.size; omega); have z4' : w.heap.size < v4.heap.size := (by omega)) | (go_at_call 40; refine (safeSchemes_ex _).mono ?_; rintro e v5 ⟨g5, rfl, rt5, hc5⟩; obtain ⟨hx5, hy5⟩ := bcell hc5; have hb5 := hb4.trans (hc5.mono hb4.size); have z5 : w.heap.size + 1 < v5.heap.size := (by have := hc5.size; omega); have z5' : w.heap.size < v5.heap.size := (by omega)) | (go_at_call_of 38 (Value.slice (some ⟨g5, 0, none⟩) 3 3); refine (letIn_ex _ _ _ _ p.sc schemesL v5 (HA.out.below hb5).2.2 (.of_row rt5) (by omega) (by decide)).mono ?_; rintro e v6 ⟨m3, rfl, lm3, wsm3, hc6⟩; obtain ⟨hx6, hy6⟩ := bcell hc6; have hb6 := hb5.trans (hc6.mono hb5.size); have z6 : w.heap.size + 1 < v6.heap.size := (by have := hc6.size; omega); have z6' : w.heap.size < v6.heap.size := (by omega)))
    have HB6 := Hid.mk' (HB.out.trans (hb6.mono HB.out.size))
    have R6 := rowB HR.out hb6
    have W1 := Hid.mk' ((((wsm1.below hc3).below hc4).below hc5).below hc6)
    have W2 := Hid.mk' ((wsm2.below hc5).below hc6)
    have W3 := Hid.mk' wsm3
    have LL : Hid (w.heap.size + 1 + 1 ≤ m1 ∧ w.heap.size + 1 + 1 ≤ m2 ∧ w.heap.size + 1 + 1 ≤ m3) := Hid.mk' (by omega)
    obtain ⟨b0, b1, b2, b3⟩ := cellsP R6
    obtain ⟨e0, e1, e2⟩ := frz3 R6
    clear hx1 hx2 hx3 hx4 hx5 hx6 hy1 hy2 hy3 hy4 hy5 hy6 wsm1 wsm2 wsm3 hb1 hb2 hb3 hb4 hb5 hb6 hc2 hc3 hc4 hc5 hc6 rt1 rt3 rt5 x0 x1 x2 x3 y0 y1 y2 y3 f0 f1 f2 R6 lm1 lm2 lm3 z1 z2 z3 z4 z5 z6 z1' z2' z3' z4' z5' z6'
    go_wp2
    refine bodyPost_ret (v := .tuple #[.agg #[.map (some m1), .map (some m2), .map (some m3)], .int .i64 0]) (by simp [results, Try.results31, go_sem, *]) rfl (.inr ⟨HP.out, m1, m2, m3, rfl, ?_, ?_⟩)
    · have KK := (((KeptIn.refl (w.heap.size + 1) (w.heap.size + 1 + 1) v6).setCell (p := ⟨w.heap.size + 1, 0, none⟩) (by simp) (by simp) (.map (some m1))).setCell (p := ⟨w.heap.size + 1, 1, none⟩) (by simp) (by simp) (.map (some m2))).setCell (p := ⟨w.heap.size + 1, 2, none⟩) (by simp) (by simp) (.map (some m3))
      have hL := LL.out
      exact ⟨W1.out.block (KK.block _ W1.out.lt (.inr (by omega))), W2.out.block (KK.block _ W2.out.lt (.inr (by omega))), W3.out.block (KK.block _ W3.out.lt (.inr (by omega))), by omega, by omega, by omega⟩
    · exact ((HB6.out.setCell (p := ⟨w.heap.size + 1, 0, none⟩) (by simp) _).setCell (p := ⟨w.heap.size + 1, 1, none⟩) (by simp) _).setCell (p := ⟨w.heap.size + 1, 2, none⟩) (by simp) _
  · obtain ⟨y0, y1, y2, y3⟩ := cellsP HR.out
    obtain ⟨f0, f1, f2⟩ := frz3 HR.out
    have HP := Hid.mk' hp
    have E : Hid (∀ e w', e = .returned (.tuple #[.agg #[.map none, .map none, .map none], .int .i64 (polF p)]) → Below w.heap.size w w' → PermP p w e w') := Hid.mk' fun e w' h1 h2 => .inl ⟨HP.out, h1, h2⟩
    generalize polF p = pf at *
    go_wp2
    refine bodyPost_ret (v := .tuple #[.agg #[.map none, .map none, .map none], .int .i64 pf]) (by simp [results, Try.results31, go_sem, *]) rfl ?_
    exact E.out _ _ rfl (((HB.out.setCell (p := ⟨w.heap.size + 1, 0, none⟩) (by simp) _).setCell (p := ⟨w.heap.size + 1, 1, none⟩) (by simp) _).setCell (p := ⟨w.heap.size + 1, 2, none⟩) (by simp) _)

/-- Whether a tag may be. -/
def mayT (p : PO) (t : ByteArray) : Bool := decide (polF p = 0) && (hasL p.tg t && hasL tagsL t)

theorem mayT_bad {p : PO} {t : ByteArray} (h : ¬ polF p = 0) : mayT p t = false := by simp [mayT, h]
theorem mayT_good {p : PO} {t : ByteArray} (h : polF p = 0) : mayT p t = (hasL p.tg t && hasL tagsL t) := by simp [mayT, h]

set_option maxHeartbeats 1600000 in
theorem implMT_any (p : PO) (a b c : Option Addr) (n1 n2 n3 : Nat) (t : ByteArray) (w : World) (ha : POAt w a b c p) (hl : (psz p : Int) ≤ 1048576) (ht : (t.size : Int) ≤ 1048576) :
    Calls Try.prog 18 #[.agg #[.slice a p.tg.length n1, .slice b p.at_.length n2, .slice c p.sc.length n3], .string t] w fun e w' => e = .returned (.bool (mayT p t)) ∧ Below w.heap.size w w' := by
  have N0 := below_new w (.cells #[.slice a p.tg.length n1, .slice b p.at_.length n2, .slice c p.sc.length n3] 27)
  have KP := Hid.mk' (permitOf_any p a b c n1 n2 n3 _ (ha.below N0) hl)
  have HX := Hid.mk' (row3 w 27 (.slice a p.tg.length n1) (.slice b p.at_.length n2) (.slice c p.sc.length n3))
  have HB := Hid.mk' N0
  clear ha N0
  generalize hW : w.alloc (.cells #[.slice a p.tg.length n1, .slice b p.at_.length n2, .slice c p.sc.length n3] 27) = W at *
  obtain ⟨x0, x1, x2, x3⟩ := cellsP HX.out
  go_enter Try.func18, Try.ntmps18
  go_wp2_with fail
  clear hW x0 x1 x2 x3
  refine KP.out.mono ?_
  rintro e w1 (⟨hp, rfl, hb⟩ | ⟨hp, b1, b2, b3, rfl, pm, hb⟩)
  · have HB := Hid.mk' (HB.out.trans (hb.mono HB.out.size))
    have E := Hid.mk' (mayT_bad (t := t) hp)
    clear hb KP
    generalize polF p = pf at *
    go_wp2
    go_ret
    exact ⟨by rw [E.out]; rfl, HB.out.alloc HB.out.size _⟩
  · have E := Hid.mk' (mayT_good (t := t) hp)
    have HB := Hid.mk' (HB.out.trans (hb.mono HB.out.size))
    have KH := Hid.mk' (hasW_any b1 _ t _ (pm.t.below (below_new w1 (.cells #[.map (some b1), .map (some b2), .map (some b3)] 51))) ht)
    clear hb KP hp pm
    go_wp2_with fail
    refine KH.out.mono ?_
    rintro e w2 ⟨rfl, hb⟩
    have HB := Hid.mk' ((HB.out.alloc HB.out.size _).trans (hb.mono (Nat.le_trans HB.out.size (by simp))))
    clear hb KH
    go_wp2
    go_ret
    exact ⟨by rw [E.out]; rfl, HB.out⟩

set_option maxHeartbeats 1600000 in
theorem l8May_any (p : PO) (g : Nat) (a b c : Option Addr) (n1 n2 n3 : Nat) (t : ByteArray) (w : World) (hr : w.rowIs g 27 3 (r3 (.slice a p.tg.length n1) (.slice b p.at_.length n2) (.slice c p.sc.length n3))) (ha : POAt w a b c p) (hl : (psz p : Int) ≤ 1048576) :
    Calls Try.prog 30 #[.pointer (some ⟨g, 0, none⟩), .string t] w fun e w' => e = .returned (.bool (hasL p.tg t && hasL tagsL t)) ∧ Below w.heap.size w w' := by
  unfold psz at hl
  have HR := Hid.mk' hr
  have HA := Hid.mk' ha
  clear hr ha
  go_enter Try.func30, Try.ntmps30
  go_wp2_with fail
  refine (l8Tags_any w).mono ?_
  rintro e w1 ⟨rfl, rt, hb⟩
  have HB := Hid.mk' hb
  have HR := Hid.mk' (rowB HR.out hb)
  have HA := Hid.mk' (HA.out.below hb)
  have K1 := l8Has_any (some ⟨w.heap.size, 0, none⟩) 6 tagsL t w1 (.of_row rt) (by decide)
  have K2 := Hid.mk' (l8Has_any a n1 p.tg t w1 HA.out.1 (by omega))
  clear hb rt
  obtain ⟨x0, x1, x2, x3⟩ := cellsP HR.out
  cases h1 : hasL tagsL t with
  | true =>
    rw [h1] at K1
    have K1 := Hid.mk' K1
    go_wp2_with fail
    refine K1.out.mono ?_
    rintro e w2 ⟨rfl, hw⟩
    obtain rfl := hw.symm
    go_wp2_with fail
    refine K2.out.mono ?_
    rintro e w2 ⟨rfl, hw⟩
    obtain rfl := hw.symm
    go_wp2
    go_ret
    exact ⟨by simp [h1], HB.out⟩
  | false =>
    rw [h1] at K1
    have K1 := Hid.mk' K1
    go_wp2_with fail
    refine K1.out.mono ?_
    rintro e w2 ⟨rfl, hw⟩
    obtain rfl := hw.symm
    go_wp2
    go_ret
    exact ⟨by simp [h1], HB.out⟩

set_option maxHeartbeats 1600000 in
theorem specMT_any (p : PO) (a b c : Option Addr) (n1 n2 n3 : Nat) (t : ByteArray) (w : World) (ha : POAt w a b c p) (hl : (psz p : Int) ≤ 1048576) :
    Calls Try.prog 17 #[.agg #[.slice a p.tg.length n1, .slice b p.at_.length n2, .slice c p.sc.length n3], .string t] w fun e w' => e = .returned (.bool (mayT p t)) ∧ Below w.heap.size w w' := by
  have N0 := below_new w (.cells #[.slice a p.tg.length n1, .slice b p.at_.length n2, .slice c p.sc.length n3] 27)
  have HR := Hid.mk' (row3 w 27 (.slice a p.tg.length n1) (.slice b p.at_.length n2) (.slice c p.sc.length n3))
  have KF := l8Fault_any p w.heap.size a b c n1 n2 n3 _ HR.out (ha.below N0) hl
  have HA := Hid.mk' (ha.below N0)
  have HB := Hid.mk' N0
  clear ha N0
  generalize hW : w.alloc (.cells #[.slice a p.tg.length n1, .slice b p.at_.length n2, .slice c p.sc.length n3] 27) = W at *
  by_cases hp : polF p = 0
  · have E := Hid.mk' (mayT_good (t := t) hp)
    rw [hp] at KF
    have KF := Hid.mk' KF
    clear hp
    go_enter Try.func17, Try.ntmps17
    go_wp2_with fail
    clear hW
    refine KF.out.mono ?_
    rintro e w1 ⟨rfl, hb⟩
    have HB := Hid.mk' (HB.out.trans (hb.mono HB.out.size))
    have KM := Hid.mk' (l8May_any p w.heap.size a b c n1 n2 n3 t w1 (rowB HR.out hb) (HA.out.below hb) hl)
    clear hb KF
    go_wp2_with fail
    refine KM.out.mono ?_
    rintro e w2 ⟨rfl, hb⟩
    have HB := Hid.mk' (HB.out.trans (hb.mono HB.out.size))
    clear hb KM
    go_wp2
    go_ret
    exact ⟨by rw [E.out]; rfl, HB.out⟩
  · have E := Hid.mk' (mayT_bad (t := t) hp)
    have KF := Hid.mk' KF
    generalize polF p = pf at *
    go_enter Try.func17, Try.ntmps17
    go_wp2_with fail
    clear hW
    refine KF.out.mono ?_
    rintro e w1 ⟨rfl, hb⟩
    have HB := Hid.mk' (HB.out.trans (hb.mono HB.out.size))
    clear hb KF
    go_wp2
    go_ret
    exact ⟨by rw [E.out]; rfl, HB.out⟩

set_option maxHeartbeats 3200000 in
/-- The law on MayTag. -/
theorem lawMT_any (p : PO) (a b c : Option Addr) (n1 n2 n3 : Nat) (t : ByteArray) (w : World) (ha : POAt w a b c p) (hw : WideP p) (ht : (t.size : Int) ≤ 9223372036854775807) :
    Calls Try.prog 5 #[.agg #[.slice a p.tg.length n1, .slice b p.at_.length n2, .slice c p.sc.length n3], .string t] w fun e w' => e = .returned (.bool true) ∧ Below w.heap.size w w' := by
  have N0 := below_new w (.cells #[.slice a p.tg.length n1, .slice b p.at_.length n2, .slice c p.sc.length n3] 24)
  have KS := szPolicy_any p a b c n1 n2 n3 _ (ha.below N0) hw
  have HP := Hid.mk' (row3 w 24 (.slice a p.tg.length n1) (.slice b p.at_.length n2) (.slice c p.sc.length n3))
  have HA := Hid.mk' (ha.below N0)
  have HB := Hid.mk' N0
  clear ha N0 hw
  generalize hW : w.alloc (.cells #[.slice a p.tg.length n1, .slice b p.at_.length n2, .slice c p.sc.length n3] 24) = W at *
  obtain ⟨c0, c1, c2, c3⟩ := cellsP HP.out
  by_cases wide : (t.size : Int) > 1048576
  · go_enter Try.func5, Try.ntmps5
    go_wp2
    go_ret
    exact ⟨rfl, HB.out⟩
  have tl : (t.size : Int) ≤ 1048576 := by omega
  by_cases big : 1048576 < (psz p : Int)
  · rw [if_pos big] at KS
    have KS := Hid.mk' KS
    go_enter Try.func5, Try.ntmps5
    go_wp2_with fail
    refine KS.out.mono ?_
    rintro e w1 ⟨rfl, hb⟩
    have HB := Hid.mk' (HB.out.trans (hb.mono HB.out.size))
    clear hb KS
    go_wp2
    go_ret
    exact ⟨rfl, HB.out⟩
  rw [if_neg big] at KS
  have KS := Hid.mk' KS
  have zz : ¬ (1048576 - (psz p : Int) < 0) := by omega
  have hl : (psz p : Int) ≤ 1048576 := by omega
  go_enter Try.func5, Try.ntmps5
  go_wp2_with fail
  clear hW
  refine KS.out.mono ?_
  rintro e w1 ⟨rfl, hb⟩
  have HP := Hid.mk' (rowB HP.out hb)
  have HA := Hid.mk' (HA.out.below hb)
  have HB := Hid.mk' (HB.out.trans (hb.mono HB.out.size))
  clear hb KS c0 c1 c2 c3 big
  obtain ⟨c0, c1, c2, c3⟩ := cellsP HP.out
  go_wp2_with fail
  clear zz
  refine (toPolicy_at p a b c n1 n2 n3 w1 HA.out hl).mono ?_
  rintro e w2 ⟨g1, g2, g3, rfl, t1, hb⟩
  have HP := Hid.mk' (rowB HP.out hb)
  have HA := Hid.mk' (HA.out.below hb)
  have HB := Hid.mk' (HB.out.trans (hb.mono HB.out.size))
  have T1 := Hid.mk' t1
  clear hb t1 c0 c1 c2 c3
  go_wp2_with fail
  refine (specMT_any p _ _ _ _ _ _ t w2 T1.out hl).mono ?_
  rintro e w3 ⟨rfl, hb⟩
  have HP := Hid.mk' (rowB HP.out hb)
  have HA := Hid.mk' (HA.out.below hb)
  have HB := Hid.mk' (HB.out.trans (hb.mono HB.out.size))
  clear hb T1
  obtain ⟨c0, c1, c2, c3⟩ := cellsP HP.out
  go_wp2_with fail
  refine (toPolicy_at p a b c n1 n2 n3 w3 HA.out hl).mono ?_
  rintro e w4 ⟨h1, h2, h3, rfl, t2, hb⟩
  have N4 := below_new w4 (.cells #[.slice (some ⟨h1, 0, none⟩) p.tg.length p.tg.length, .slice (some ⟨h2, 0, none⟩) p.at_.length p.at_.length, .slice (some ⟨h3, 0, none⟩) p.sc.length p.sc.length] 27)
  have M4 := hb.trans (N4.mono hb.size)
  have HP := Hid.mk' (rowB HP.out M4)
  have HA := Hid.mk' (HA.out.below M4)
  have HB := Hid.mk' (HB.out.trans (M4.mono HB.out.size))
  have T2 := Hid.mk' (t2.below N4)
  have HX := Hid.mk' (row3 w4 27 (.slice (some ⟨h1, 0, none⟩) p.tg.length p.tg.length) (.slice (some ⟨h2, 0, none⟩) p.at_.length p.at_.length) (.slice (some ⟨h3, 0, none⟩) p.sc.length p.sc.length))
  clear hb t2 N4 M4 c0 c1 c2 c3
  generalize hW4 : w4.alloc (.cells #[.slice (some ⟨h1, 0, none⟩) p.tg.length p.tg.length, .slice (some ⟨h2, 0, none⟩) p.at_.length p.at_.length, .slice (some ⟨h3, 0, none⟩) p.sc.length p.sc.length] 27) = W4 at *
  obtain ⟨d0, d1, d2, d3⟩ := cellsP HX.out
  go_wp2_with fail
  clear hW4
  refine (implMT_any p _ _ _ _ _ _ t W4 T2.out hl tl).mono ?_
  rintro e w5 ⟨rfl, hb⟩
  have HP := Hid.mk' (rowB HP.out hb)
  have HX := Hid.mk' (rowB HX.out hb)
  have HA := Hid.mk' (HA.out.below hb)
  have T2 := Hid.mk' (T2.out.below hb)
  have HB := Hid.mk' (HB.out.trans (hb.mono HB.out.size))
  clear hb d0 d1 d2 d3
  obtain ⟨c0, c1, c2, c3⟩ := cellsP HP.out
  obtain ⟨d0, d1, d2, d3⟩ := cellsP HX.out
  generalize mayT p t = tf at *
  go_wp2
  go_region_held3 (fun w' => w'.cell? ⟨w.heap.size, 0, none⟩ = some (.slice a p.tg.length n1) ∧ w'.cell? ⟨w.heap.size, 1, none⟩ = some (.slice b p.at_.length n2) ∧ w'.cell? ⟨w.heap.size, 2, none⟩ = some (.slice c p.sc.length n3) ∧ w'.cell? ⟨w4.heap.size, 0, none⟩ = some (.slice (some ⟨h1, 0, none⟩) p.tg.length p.tg.length) ∧ w'.cell? ⟨w4.heap.size, 1, none⟩ = some (.slice (some ⟨h2, 0, none⟩) p.at_.length p.at_.length) ∧ w'.cell? ⟨w4.heap.size, 2, none⟩ = some (.slice (some ⟨h3, 0, none⟩) p.sc.length p.sc.length)) (simp [*])
    (first | (go_at_call 9; refine (toPolicy_at p a b c n1 n2 n3 _ (HA.out.below (Below.refl _ _).drew) hl).mono ?_; rintro e w9 ⟨k1, k2, k3, rfl, t9, hb9⟩; replace hb9 := undrew hb9; obtain ⟨hx1, hx2⟩ := bcell hb9; have z1 := hb9.size; have z2 : w.heap.size < w9.heap.size := (by omega); have z3 : w4.heap.size < w9.heap.size := (by omega)) | (go_at_call 11; refine (eqPolicy_any p _ _ _ _ _ _ _ _ _ _ _ _ _ (T2.out.below hb9) t9 hl).mono ?_; rintro e wA ⟨rfl, hbA⟩; obtain ⟨hx3, hx4⟩ := bcell hbA))
  have HB := Hid.mk' (HB.out.trans ((hb9.trans (hbA.mono hb9.size)).mono HB.out.size))
  clear hx1 hx2 hx3 hx4 z1 z2 z3 hb9 hbA t9 c0 c1 c2 c3 d0 d1 d2 d3
  go_wp2
  go_ret
  exact ⟨rfl, HB.out⟩

end Go.Proofs.Ytlhjkjhppjogbaa
