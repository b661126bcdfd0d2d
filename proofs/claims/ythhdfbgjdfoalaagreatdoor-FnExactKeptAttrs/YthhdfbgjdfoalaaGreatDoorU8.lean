/- What a policy lets in: MayTag, both sides, and the law. -/
import Derived.Test.YthhdfbgjdfoalaaGreatDoorU7
import Derived.Deep.RegionHeld3
import Derived.Test.YthhdfbgjdfoalaaGreatDoorWb
import Derived.Test.YthhdfbgjdfoalaaGreatDoorMath
import Derived.Test.YthhdfbgjdfoalaaGreatDoorOwn
import Derived.Test.YthhdfbgjdfoalaaGreatDoorApp
namespace Go.Proofs.YthhdfbgjdfoalaaGreatDoor
open Go.RowKit Go.Maps
set_option linter.unusedVariables false
set_option linter.unusedSimpArgs false

/-- What a policy lets in, as three maps in blocks of one's own. -/
structure PM (p : PO) (lo b1 b2 b3 : Nat) (w : World) : Prop where
  t : WS w b1 (fun s => hasL p.tg s && hasL tagsL s)
  a : WS w b2 (fun s => hasL p.at_ s && hasL attrsL s)
  s : WS w b3 (fun s => hasL p.sc s && hasL schemesL s)
  l1 : lo ≤ b1
  l2 : lo ≤ b2
  l3 : lo ≤ b3

theorem PM.below {p : PO} {lo b1 b2 b3 : Nat} {w w' : World} (h : PM p lo b1 b2 b3 w) (hb : Below w.heap.size w w') : PM p lo b1 b2 b3 w' := ⟨h.t.below hb, h.a.below hb, h.s.below hb, h.l1, h.l2, h.l3⟩

theorem PM.keep {p : PO} {lo b1 b2 b3 lo' hi' : Nat} {w w' : World} (h : PM p lo b1 b2 b3 w) (hk : KeptIn lo' hi' w w') (hd : hi' ≤ lo) : PM p lo b1 b2 b3 w' :=
  ⟨h.t.block (hk.block _ h.t.lt (.inr (by have := h.l1; omega))), h.a.block (hk.block _ h.a.lt (.inr (by have := h.l2; omega))), h.s.block (hk.block _ h.s.lt (.inr (by have := h.l3; omega))), h.l1, h.l2, h.l3⟩

/-- What permitOf leaves. -/
def PermP (p : PO) (w : World) (e : Ending) (w' : World) : Prop :=
  (¬ polF p = 0 ∧ e = .returned (.tuple #[.agg #[.map none, .map none, .map none], .int .i64 (polF p)]) ∧ Below w.heap.size w w') ∨
  (polF p = 0 ∧ ∃ b1 b2 b3, e = .returned (.tuple #[.agg #[.map (some b1), .map (some b2), .map (some b3)], .int .i64 0]) ∧ PM p w.heap.size b1 b2 b3 w' ∧ Below w.heap.size w w')

/-- The boxes of permitOf. -/
theorem boxesM (w : World) (x0 x1 x2 : Value) :
    let W := (w.alloc (.cells #[x0, x1, x2] 32)).alloc (.cells #[.map none, .map none, .map none] 63)
    Below w.heap.size w W ∧ W.rowIs w.heap.size 32 3 (r3 x0 x1 x2) ∧ W.rowIs (w.heap.size + 1) 63 3 (r3 (.map none) (.map none) (.map none)) := by
  refine ⟨(below_new w _).alloc (by simp) _, (row3 w _ x0 x1 x2).alloc _, ?_⟩
  have := row3 (w.alloc (.cells #[x0, x1, x2] 32)) 63 (.map none) (.map none) (.map none)
  rw [show (w.alloc (.cells #[x0, x1, x2] 32)).heap.size = w.heap.size + 1 by simp] at this
  exact this

theorem safeTags_ex (w : World) : Calls Tryz.prog 53 #[] w fun e w' => ∃ g, e = .returned (.slice (some ⟨g, 0, none⟩) 6 6) ∧ w'.rowIs g 9 6 (sv tagsL) ∧ Below w.heap.size w w' :=
  (safeTags_any w).mono fun e w' ⟨h1, h2, h3⟩ => ⟨_, h1, h2, h3⟩

theorem safeAttrs_ex (w : World) : Calls Tryz.prog 54 #[] w fun e w' => ∃ g, e = .returned (.slice (some ⟨g, 0, none⟩) 4 4) ∧ w'.rowIs g 9 4 (sv attrsL) ∧ Below w.heap.size w w' :=
  (safeAttrs_any w).mono fun e w' ⟨h1, h2, h3⟩ => ⟨_, h1, h2, h3⟩

theorem safeSchemes_ex (w : World) : Calls Tryz.prog 55 #[] w fun e w' => ∃ g, e = .returned (.slice (some ⟨g, 0, none⟩) 3 3) ∧ w'.rowIs g 9 3 (sv schemesL) ∧ Below w.heap.size w w' :=
  (safeSchemes_any w).mono fun e w' ⟨h1, h2, h3⟩ => ⟨_, h1, h2, h3⟩

theorem letIn_ex (a b : Option Addr) (c d : Nat) (l safe : List ByteArray) (w : World) (ha : StAt w a l) (hb : StAt w b safe) (hl : (l.length : Int) + ssz l ≤ 1048576) (hm : (safe.length : Int) ≤ 1048576) :
    Calls Tryz.prog 52 #[.slice a l.length c, .slice b safe.length d] w fun e w' => ∃ m, e = .returned (.map (some m)) ∧ w.heap.size ≤ m ∧ WS w' m (fun s => hasL l s && hasL safe s) ∧ Below w.heap.size w w' :=
  (letIn_any a b c d l safe w ha hb hl hm).mono fun e w' ⟨h1, h2, h3⟩ => ⟨_, h1, Nat.le_refl _, h2, h3⟩

set_option maxRecDepth 100000 in
set_option maxHeartbeats 6400000 in
theorem permitOf_any (p : PO) (a b c : Option Addr) (n1 n2 n3 : Nat) (w : World) (ha : POAt w a b c p) (hl : (psz p : Int) ≤ 1048576) :
    Calls Tryz.prog 29 #[.agg #[.slice a p.tg.length n1, .slice b p.at_.length n2, .slice c p.sc.length n3]] w fun e w' => PermP p w e w' := by
  obtain ⟨N0, RX, RR⟩ := boxesM w (.slice a p.tg.length n1) (.slice b p.at_.length n2) (.slice c p.sc.length n3)
  have KF := Hid.mk' (implPF_any p a b c n1 n2 n3 _ (ha.below N0) hl)
  have HA := Hid.mk' (ha.below N0)
  have HB := Hid.mk' N0
  have HX := Hid.mk' RX
  have HR := Hid.mk' RR
  unfold psz at hl
  clear ha N0 RX RR
  generalize hW : (w.alloc (.cells #[.slice a p.tg.length n1, .slice b p.at_.length n2, .slice c p.sc.length n3] 32)).alloc (.cells #[.map none, .map none, .map none] 63) = W at *
  obtain ⟨x0, x1, x2, x3⟩ := cellsP HX.out
  go_enter Tryz.func29, Tryz.ntmps29
  go_wp2_with fail
  clear hW
  refine KF.out.mono ?_
  rintro e w1 ⟨rfl, hb⟩
  have HX := Hid.mk' (rowB HX.out hb)
  have HR := Hid.mk' (rowB HR.out hb)
  have HA := Hid.mk' (HA.out.below hb)
  have HB := Hid.mk' (HB.out.trans (hb.mono HB.out.size))
  clear hb KF x0 x1 x2 x3
  by_cases hp : polF p = 0
  · have HP := Hid.mk' hp
    rw [hp]
    clear hp
    obtain ⟨x0, x1, x2, x3⟩ := cellsP HX.out
    obtain ⟨y0, y1, y2, y3⟩ := cellsP HR.out
    obtain ⟨f0, f1, f2⟩ := frz3 HR.out
    have hbd : ∀ (m1 m2 m3 : Nat) (w : World), (Instr.build 63 #[(0, .map (some m1)), (1, .map (some m2)), (2, .map (some m3))]).run Tryz.prog w = .ok (.agg #[.map (some m1), .map (some m2), .map (some m3)]) w := fun _ _ _ _ => by go_simp
    go_wp2
    go_region_held3 (fun w' => w'.cell? ⟨w.heap.size, 0, none⟩ = some (.slice a p.tg.length n1) ∧ w'.cell? ⟨w.heap.size, 1, none⟩ = some (.slice b p.at_.length n2) ∧ w'.cell? ⟨w.heap.size, 2, none⟩ = some (.slice c p.sc.length n3) ∧ w'.frozen? ⟨w.heap.size + 1, 0, none⟩ = false ∧ w'.frozen? ⟨w.heap.size + 1, 1, none⟩ = false ∧ w'.frozen? ⟨w.heap.size + 1, 2, none⟩ = false) (simp [*, go_sem])
      (first | (go_at_call 53; refine (safeTags_ex _).mono ?_; rintro e v1 ⟨g1, rfl, rt1, hb1⟩; replace hb1 := undrew hb1; obtain ⟨hx1, hy1⟩ := bcell hb1; have z1 : w.heap.size + 1 < v1.heap.size := (by have := hb1.size; omega); have z1' : w.heap.size < v1.heap.size := (by omega)) | (go_at_call_of 52 (Value.slice (some ⟨g1, 0, none⟩) 6 6); refine (letIn_ex _ _ _ _ p.tg tagsL v1 (HA.out.below hb1).1 (.of_row rt1) (by omega) (by decide)).mono ?_; rintro e v2 ⟨m1, rfl, lm1, wsm1, hc2⟩; obtain ⟨hx2, hy2⟩ := bcell hc2; have hb2 := hb1.trans (hc2.mono hb1.size); have z2 : w.heap.size + 1 < v2.heap.size := (by have := hc2.size; omega); have z2' : w.heap.size < v2.heap.size := (by omega)) | (go_at_call 54; refine (safeAttrs_ex _).mono ?_; rintro e v3 ⟨g3, rfl, rt3, hc3⟩; obtain ⟨hx3, hy3⟩ := bcell hc3; have hb3 := hb2.trans (hc3.mono hb2.size); have z3 : w.heap.size + 1 < v3.heap.size := (by have := hc3.size; omega); have z3' : w.heap.size < v3.heap.size := (by omega)) | (go_at_call_of 52 (Value.slice (some ⟨g3, 0, none⟩) 4 4); refine (letIn_ex _ _ _ _ p.at_ attrsL v3 (HA.out.below hb3).2.1 (.of_row rt3) (by omega) (by decide)).mono ?_; rintro e v4 ⟨m2, rfl, lm2, wsm2, hc4⟩; obtain ⟨hx4, hy4⟩ := bcell hc4; have hb4 := hb3.trans (hc4.mono hb3.size); have z4 : w.heap.size + 1 < v4.heap.size := (by have := hc4.size; omega); have z4' : w.heap.size < v4.heap.size := (by omega)) | (go_at_call 55; refine (safeSchemes_ex _).mono ?_; rintro e v5 ⟨g5, rfl, rt5, hc5⟩; obtain ⟨hx5, hy5⟩ := bcell hc5; have hb5 := hb4.trans (hc5.mono hb4.size); have z5 : w.heap.size + 1 < v5.heap.size := (by have := hc5.size; omega); have z5' : w.heap.size < v5.heap.size := (by omega)) | (go_at_call_of 52 (Value.slice (some ⟨g5, 0, none⟩) 3 3); refine (letIn_ex _ _ _ _ p.sc schemesL v5 (HA.out.below hb5).2.2 (.of_row rt5) (by omega) (by decide)).mono ?_; rintro e v6 ⟨m3, rfl, lm3, wsm3, hc6⟩; obtain ⟨hx6, hy6⟩ := bcell hc6; have hb6 := hb5.trans (hc6.mono hb5.size); have z6 : w.heap.size + 1 < v6.heap.size := (by have := hc6.size; omega); have z6' : w.heap.size < v6.heap.size := (by omega)))
    have HB6 := Hid.mk' (HB.out.trans (hb6.mono HB.out.size))
    have R6 := rowB HR.out hb6
    have W1 := Hid.mk' ((((wsm1.below hc3).below hc4).below hc5).below hc6)
    have W2 := Hid.mk' ((wsm2.below hc5).below hc6)
    have W3 := Hid.mk' wsm3
    have LL : Hid (w.heap.size + 1 + 1 ≤ m1 ∧ w.heap.size + 1 + 1 ≤ m2 ∧ w.heap.size + 1 + 1 ≤ m3) := Hid.mk' (by omega)
    obtain ⟨b0, b1, b2, b3⟩ := cellsP R6
    obtain ⟨e0, e1, e2⟩ := frz3 R6
    clear hx1 hx2 hx3 hx4 hx5 hx6 hy1 hy2 hy3 hy4 hy5 hy6 wsm1 wsm2 wsm3 hb1 hb2 hb3 hb4 hb5 hb6 hc2 hc3 hc4 hc5 hc6 rt1 rt3 rt5 x0 x1 x2 x3 y0 y1 y2 y3 f0 f1 f2 R6 lm1 lm2 lm3 z1 z2 z3 z4 z5 z6 z1' z2' z3' z4' z5' z6'
    go_wp2
    refine bodyPost_ret (v := .tuple #[.agg #[.map (some m1), .map (some m2), .map (some m3)], .int .i64 0]) (by simp [results, Tryz.results29, go_sem, *]) rfl (.inr ⟨HP.out, m1, m2, m3, rfl, ?_, ?_⟩)
    · have KK := (((KeptIn.refl (w.heap.size + 1) (w.heap.size + 1 + 1) v6).setCell (p := ⟨w.heap.size + 1, 0, none⟩) (by simp) (by simp) (.map (some m1))).setCell (p := ⟨w.heap.size + 1, 1, none⟩) (by simp) (by simp) (.map (some m2))).setCell (p := ⟨w.heap.size + 1, 2, none⟩) (by simp) (by simp) (.map (some m3))
      have hL := LL.out
      exact ⟨W1.out.block (KK.block _ W1.out.lt (.inr (by omega))), W2.out.block (KK.block _ W2.out.lt (.inr (by omega))), W3.out.block (KK.block _ W3.out.lt (.inr (by omega))), by omega, by omega, by omega⟩
    · exact ((HB6.out.setCell (p := ⟨w.heap.size + 1, 0, none⟩) (by simp) _).setCell (p := ⟨w.heap.size + 1, 1, none⟩) (by simp) _).setCell (p := ⟨w.heap.size + 1, 2, none⟩) (by simp) _
  · obtain ⟨y0, y1, y2, y3⟩ := cellsP HR.out
    obtain ⟨f0, f1, f2⟩ := frz3 HR.out
    have HP := Hid.mk' hp
    have E : Hid (∀ e w', e = .returned (.tuple #[.agg #[.map none, .map none, .map none], .int .i64 (polF p)]) → Below w.heap.size w w' → PermP p w e w') := Hid.mk' fun e w' h1 h2 => .inl ⟨HP.out, h1, h2⟩
    generalize polF p = pf at *
    go_wp2
    refine bodyPost_ret (v := .tuple #[.agg #[.map none, .map none, .map none], .int .i64 pf]) (by simp [results, Tryz.results29, go_sem, *]) rfl ?_
    exact E.out _ _ rfl (((HB.out.setCell (p := ⟨w.heap.size + 1, 0, none⟩) (by simp) _).setCell (p := ⟨w.heap.size + 1, 1, none⟩) (by simp) _).setCell (p := ⟨w.heap.size + 1, 2, none⟩) (by simp) _)

/-- Whether a tag may be. -/
def mayT (p : PO) (t : ByteArray) : Bool := decide (polF p = 0) && (hasL p.tg t && hasL tagsL t)

theorem mayT_bad {p : PO} {t : ByteArray} (h : ¬ polF p = 0) : mayT p t = false := by simp [mayT, h]
theorem mayT_good {p : PO} {t : ByteArray} (h : polF p = 0) : mayT p t = (hasL p.tg t && hasL tagsL t) := by simp [mayT, h]

set_option maxHeartbeats 1600000 in
theorem l8May_any (p : PO) (g : Nat) (a b c : Option Addr) (n1 n2 n3 : Nat) (t : ByteArray) (w : World) (hr : w.rowIs g 32 3 (r3 (.slice a p.tg.length n1) (.slice b p.at_.length n2) (.slice c p.sc.length n3))) (ha : POAt w a b c p) (hl : (psz p : Int) ≤ 1048576) :
    Calls Tryz.prog 62 #[.pointer (some ⟨g, 0, none⟩), .string t] w fun e w' => e = .returned (.bool (hasL p.tg t && hasL tagsL t)) ∧ Below w.heap.size w w' := by
  unfold psz at hl
  have HR := Hid.mk' hr
  have HA := Hid.mk' ha
  clear hr ha
  go_enter Tryz.func62, Tryz.ntmps62
  go_wp2_with fail
  refine (l8Tags_any w).mono ?_
  rintro e w1 ⟨rfl, rt, hb⟩
  have HB := Hid.mk' hb
  have HR := Hid.mk' (rowB HR.out hb)
  have HA := Hid.mk' (HA.out.below hb)
  have K1 := l8Has_any (some ⟨w.heap.size, 0, none⟩) 6 tagsL t w1 (.of_row rt) (by decide)
  have K2 := Hid.mk' (l8Has_any a n1 p.tg t w1 HA.out.1 (by omega))
  clear hb rt
  obtain ⟨x0, x1, x2, x3⟩ := cellsP HR.out
  cases h1 : hasL tagsL t with
  | true =>
    rw [h1] at K1
    have K1 := Hid.mk' K1
    go_wp2_with fail
    refine K1.out.mono ?_
    rintro e w2 ⟨rfl, hw⟩
    obtain rfl := hw.symm
    go_wp2_with fail
    refine K2.out.mono ?_
    rintro e w2 ⟨rfl, hw⟩
    obtain rfl := hw.symm
    go_wp2
    go_ret
    exact ⟨by simp [h1], HB.out⟩
  | false =>
    rw [h1] at K1
    have K1 := Hid.mk' K1
    go_wp2_with fail
    refine K1.out.mono ?_
    rintro e w2 ⟨rfl, hw⟩
    obtain rfl := hw.symm
    go_wp2
    go_ret
    exact ⟨by simp [h1], HB.out⟩

end Go.Proofs.YthhdfbgjdfoalaaGreatDoor

/- Walks: a table copied, two tables compared. -/
namespace Go.Proofs.YthhdfbgjdfoalaaGreatDoor
open Go.RowKit
set_option linter.unusedVariables false

/-- A row behind four stores into other blocks. -/
theorem four_other {w : World} {b n c d o1 o2 o3 o4 : Nat} {t : TypeId} {f : Nat → Value} {v1 v2 v3 v4 : Value} (h : w.rowIs b t n f) (h1 : b ≠ c) (h2 : b ≠ d) :
    ((((w.setCell ⟨c, o1, none⟩ v1).setCell ⟨d, o2, none⟩ v2).setCell ⟨d, o3, none⟩ v3).setCell ⟨d, o4, none⟩ v4).rowIs b t n f :=
  (((h.setOther (a := ⟨c, o1, none⟩) h1 _).setOther (a := ⟨d, o2, none⟩) h2 _).setOther (a := ⟨d, o3, none⟩) h2 _).setOther (a := ⟨d, o4, none⟩) h2 _

end Go.Proofs.YthhdfbgjdfoalaaGreatDoor

/- Walks of the specification's side: the fault of a table, the sum of its sizes. -/
namespace Go.Proofs.YthhdfbgjdfoalaaGreatDoor
open Go.RowKit
set_option linter.unusedVariables false

end Go.Proofs.YthhdfbgjdfoalaaGreatDoor

/- Walks of the program's side: the fault of a table. -/
namespace Go.Proofs.YthhdfbgjdfoalaaGreatDoor
open Go.RowKit
set_option linter.unusedVariables false

theorem below_three {B : Nat} {w w' : World} (h : Below B w w') {o1 o2 o3 : Nat} {v1 v2 v3 : Value} : Below B w (((w'.setCell ⟨B, o1, none⟩ v1).setCell ⟨B, o2, none⟩ v2).setCell ⟨B, o3, none⟩ v3) :=
  ((h.setCell (p := ⟨B, o1, none⟩) (Nat.le_refl _) _).setCell (p := ⟨B, o2, none⟩) (Nat.le_refl _) _).setCell (p := ⟨B, o3, none⟩) (Nat.le_refl _) _

theorem join2 {B : Nat} {w a b c : World} (h : Below B w a) (h1 : Below a.heap.size a b) (h2 : Below b.heap.size b c) (hB : B ≤ a.heap.size := by first | omega | (simp; omega)) : Below B w c :=
  (h.trans (h1.mono hB)).trans (h2.mono (Nat.le_trans hB h1.size))

theorem row2 {a b c : World} {g n : Nat} {t : TypeId} {f : Nat → Value} (h : a.rowIs g t n f) (h1 : Below a.heap.size a b) (h2 : Below b.heap.size b c) : c.rowIs g t n f := by
  have h' := h.of_block (h1.block _ h.lt)
  exact h'.of_block (h2.block _ h'.lt)

/-- Each piece begins at a place that is an int64. -/
def WFT (t : TB) : Prop := ∀ k, k < t.pcs.length → (pc t.pcs k).fr ≤ 9223372036854775807

end Go.Proofs.YthhdfbgjdfoalaaGreatDoor

/- The walk of the law on TableFault: it answers true at every table, and turns nothing that was there. -/
namespace Go.Proofs.YthhdfbgjdfoalaaGreatDoor
open Go.RowKit
set_option linter.unusedVariables false

/-- What a law holds on to while it calls: nothing old has turned; its argument lies in its box; the argument reads as the table. -/
def Hold (w : World) (ty : TypeId) (x y z : Value) (t : TB) (wi : World) : Prop := Below w.heap.size w wi ∧ wi.rowIs w.heap.size ty 3 (r3 x y z) ∧ TAt wi (.agg #[x, y, z]) t

theorem Hold.start {w : World} {ty : TypeId} {x y z : Value} {t : TB} (ht : TAt w (.agg #[x, y, z]) t) : Hold w ty x y z t (w.alloc (.cells #[x, y, z] ty)) :=
  have B0 := (Below.refl w.heap.size w).alloc (Nat.le_refl _) (.cells #[x, y, z] ty)
  ⟨B0, row3 w ty x y z, ht.below B0⟩

theorem Hold.below {w wi wj : World} {ty : TypeId} {x y z : Value} {t : TB} (h : Hold w ty x y z t wi) (hb : Below wi.heap.size wi wj) : Hold w ty x y z t wj :=
  ⟨h.1.trans (hb.mono h.1.size), h.2.1.of_block (hb.block _ h.2.1.lt), h.2.2.below hb⟩

theorem Hold.cells {w wi : World} {ty : TypeId} {x y z : Value} {t : TB} (h : Hold w ty x y z t wi) : wi.cell? ⟨w.heap.size, 0, none⟩ = some x ∧ wi.cell? ⟨w.heap.size, 1, none⟩ = some y ∧ wi.cell? ⟨w.heap.size, 2, none⟩ = some z ∧ w.heap.size < wi.heap.size :=
  ⟨h.2.1.cell (by omega), h.2.1.cell (by omega), h.2.1.cell (by omega), h.2.1.lt⟩

theorem cells3 {w : World} {g : Nat} {ty : TypeId} {x y z : Value} (h : w.rowIs g ty 3 (r3 x y z)) : w.cell? ⟨g, 0, none⟩ = some x ∧ w.cell? ⟨g, 1, none⟩ = some y ∧ w.cell? ⟨g, 2, none⟩ = some z ∧ g < w.heap.size :=
  ⟨h.cell (by omega), h.cell (by omega), h.cell (by omega), h.lt⟩

end Go.Proofs.YthhdfbgjdfoalaaGreatDoor

/- Walks: the size of a table, both sides, and the law on it. -/
namespace Go.Proofs.YthhdfbgjdfoalaaGreatDoor
open Go.RowKit
set_option linter.unusedVariables false

theorem below_two {B : Nat} {w w' : World} (h : Below B w w') {c o1 o2 : Nat} {v1 v2 : Value} (hc : B ≤ c) : Below B w ((w'.setCell ⟨c, o1, none⟩ v1).setCell ⟨c, o2, none⟩ v2) :=
  (h.setCell (p := ⟨c, o1, none⟩) hc _).setCell (p := ⟨c, o2, none⟩) hc _

end Go.Proofs.YthhdfbgjdfoalaaGreatDoor

/- Walks: memory of one's own is marked, and the marks are held. -/
namespace Go.Proofs.YthhdfbgjdfoalaaGreatDoor
open Go.RowKit
set_option linter.unusedVariables false

set_option maxHeartbeats 400000 in
theorem markByteS_row (g cap cn n k : Nat) (f : Nat → Value) (w : World) (hr : w.rowIs g 5 cn f) (hn : n ≤ cn) (hk : (k : Int) + n ≤ 100000000) :
    Calls Tryz.prog 35 #[.slice (some ⟨g, 0, none⟩) n cap, .int .i64 k] w fun e w' => e = .returned (.int .i64 ((k : Int) + n)) ∧ w'.rowIs g 5 cn (mpart f k n) ∧ KeptIn g (g + 1) w w' := by
  go_enter Tryz.func35, Tryz.ntmps35
  go_wp2
  go_loopw [1, 5] (fun s x wr => ∃ i : Nat, i ≤ n ∧ x = .int .i64 i ∧ s = .int .i64 ((k : Int) + i) ∧ wr.rowIs g 5 cn (mpart f k i) ∧ KeptIn g (g + 1) w wr) (fun _ x _ => n - (intOf x).toNat)
  case atStart => exact ⟨0, Nat.zero_le _, rfl, by simp, hr.congr (fun j _ => by simp [mpart]), KeptIn.refl _ _ _⟩
  case round =>
    obtain ⟨i, hi, rfl, rfl, hrow, hkp⟩ := hrel
    by_cases hlt : i < n
    · have f0 := hrow.frozen i
      obtain ⟨v0, g0⟩ : ∃ v, wr.cell? ⟨g, i, none⟩ = some v := ⟨_, hrow.cell (by omega)⟩
      have R1 := Hid.mk' hrow
      have R2 := Hid.mk' hkp
      clear hrow hkp
      go_wp2
      go_roundw
      case rel => exact ⟨i + 1, by omega, by go_num, by go_num, mpart_step R1.out, R2.out.setCell (p := ⟨g, i, none⟩) (Nat.le_refl _) (Nat.lt_succ_self _) _⟩
      case measure => simp [intOf]; omega
    · go_wp2
      go_ret
      have e : i = n := by omega
      subst e
      exact ⟨rfl, hrow, hkp⟩

set_option maxHeartbeats 400000 in
theorem heldByteS_any (a : Option Addr) (c n k : Nat) (w : World) (ha : BAt w a (mb k n)) (hk : (k : Int) + n ≤ 100000000) :
    Calls Tryz.prog 60 #[.slice a n c, .int .i64 k] w fun e w' => e = .returned (.int .i64 ((k : Int) + n)) ∧ Below w.heap.size w w' := by
  go_enter Tryz.func60, Tryz.ntmps60
  go_wp2
  go_loopw [1, 5] (fun s x wr => ∃ i : Nat, i ≤ n ∧ x = .int .i64 i ∧ s = .int .i64 ((k : Int) + i) ∧ Below w.heap.size w wr) (fun _ x _ => n - (intOf x).toNat)
  case atStart => exact ⟨0, Nat.zero_le _, rfl, by simp, Below.refl _ _⟩
  case round =>
    obtain ⟨i, hi, rfl, rfl, hbl⟩ := hrel
    by_cases hlt : i < n
    · rcases ha with ha | ⟨b, o, rfl, hbs, hc⟩
      · have := congrArg List.length ha
        rw [mb_len] at this
        simp at this
        omega
      have h1 : wr.cell? ⟨b, o + i, none⟩ = some (.int .u8 (((k : Int) + i) % 256)) := by rw [hbl.cell hbs, hc i (by rw [mb_len]; exact hlt), bv_mb k n i hlt]
      have R2 := Hid.mk' hbl
      clear hbl hc
      go_wp2
      go_roundw
      case rel => exact ⟨i + 1, by omega, by go_num, by go_num, R2.out⟩
      case measure => simp [intOf]; omega
    · go_wp2
      go_ret
      have e : i = n := by omega
      subst e
      exact ⟨rfl, hbl⟩

set_option maxHeartbeats 400000 in
theorem markByteS_nil (k : Nat) (w : World) (hk : (k : Int) ≤ 100000000) :
    Calls Tryz.prog 35 #[.slice none 0 0, .int .i64 k] w fun e w' => e = .returned (.int .i64 (k : Int)) ∧ w' = w := by
  go_enter Tryz.func35, Tryz.ntmps35
  go_wp2
  go_loop [1, 5] (fun s x => x = .int .i64 0 ∧ s = .int .i64 (k : Int)) (fun _ _ => 0)
  case atStart => exact ⟨rfl, rfl⟩
  case round =>
    obtain ⟨rfl, rfl⟩ := hrel
    go_wp2
    go_ret
    exact ⟨rfl, rfl⟩

theorem markByteS_own (k : Nat) (v : Value) (l : List Int) (w : World) (h : OB w v l) (hk : (k : Int) + l.length ≤ 100000000) :
    Calls Tryz.prog 35 #[v, .int .i64 k] w fun e w' => e = .returned (.int .i64 ((k : Int) + l.length)) ∧ OB w' v (mb k l.length) ∧ Turned v w w' := by
  rcases h with ⟨rfl, rfl⟩ | ⟨g, cap, cn, f, rfl, hca, hr, hl, hf⟩
  · refine (markByteS_nil k w (by simpa using hk)).mono ?_
    rintro e w' ⟨rfl, rfl⟩
    exact ⟨by simp, .inl ⟨rfl, rfl⟩, Turned.refl _ _⟩
  · refine (markByteS_row g cap cn l.length k f w hr hl hk).mono ?_
    rintro e w' ⟨rfl, hr', hk'⟩
    exact ⟨rfl, .inr ⟨g, cap, cn, _, by rw [mb_len], by rw [mb_len]; exact hca, hr', by rw [mb_len]; exact hl, fun i hi => by rw [mb_len] at hi; rw [bv_mb _ _ _ hi]; unfold mpart; rw [if_pos hi]⟩, Turned.of_kept hk'⟩

theorem ret_num {a b : Int} (h : a = b) : Ending.returned (.int .i64 a) = .returned (.int .i64 b) := by rw [h]

end Go.Proofs.YthhdfbgjdfoalaaGreatDoor

/- Walks: a new table, both sides. -/
namespace Go.Proofs.YthhdfbgjdfoalaaGreatDoor
open Go.RowKit
set_option linter.unusedVariables false

set_option maxHeartbeats 400000 in
theorem l1Copy_own (a : Option Addr) (c : Nat) (l : List Int) (w : World) (ha : BAt w a l) (hl : (l.length : Int) ≤ 1048576) :
    Calls Tryz.prog 78 #[.slice a l.length c] w fun e w' => ∃ v, e = .returned v ∧ w'.ownsRow w.heap.size 5 1 v l.length (bcs l) ∧ Below w.heap.size w w' := by
  have B0 := below_new w (.cells #[] 5)
  go_enter Tryz.func78, Tryz.ntmps78
  go_wp2_with (at_builtin; refine wpList_append_any _ rfl (.tmp 3) (.tmp 4) 51 rfl w.heap.size 5 (.int .u8 0) 1 1 Tryz.underlying51 Tryz.info5 rfl (by decide) _ 0 [] rfl (World.ownsRow_lit w #[] 0 (Nat.le_refl _) (by decide) rfl) a l.length c (bcs l) rfl (bcs_len l) (ha.below B0).src (bcs_one l) (by unfold maxLen; omega) (by omega) (by simp) ?_; intro v' w1 hown hgr)
  go_ret
  rw [Nat.zero_add, List.nil_append] at hown
  refine ⟨_, rfl, hown, B0.grown hgr (by simp) (fun k hk => ?_)⟩
  simp [Act.eval, Value.ownBlock] at hk
  omega

theorem l1Copy_any (a : Option Addr) (c : Nat) (l : List Int) (w : World) (ha : BAt w a l) (hl : (l.length : Int) ≤ 1048576) :
    Calls Tryz.prog 78 #[.slice a l.length c] w fun e w' => ∃ v, e = .returned v ∧ OB w' v l ∧ In w.heap.size w'.heap.size v ∧ Below w.heap.size w w' := by
  refine (l1Copy_own a c l w ha hl).mono ?_
  rintro e w1 ⟨v, rfl, hown, hb⟩
  obtain ⟨ho, hlo⟩ := OB.of_own hown
  exact ⟨_, rfl, ho, fun k hk => ⟨hlo k hk, ho.lt k hk⟩, hb⟩

set_option maxHeartbeats 400000 in
theorem joinBytes_nil (a b : Option Addr) (c d : Nat) (l : List Int) (w : World) (ha : BAt w a l) (hl : (l.length : Int) ≤ 2097152) :
    Calls Tryz.prog 111 #[.slice a l.length c, .slice b 0 d] w fun e w' => ∃ g, e = .returned (.slice (some ⟨g, 0, none⟩) l.length l.length) ∧ w.heap.size ≤ g ∧ w'.rowIs g 5 l.length (bv l) ∧ Below w.heap.size w w' := by
  have hmk := run_make_row' (P := Tryz.prog) 51 5 (.int .u8 0) 1 Tryz.underlying51 Tryz.info5 rfl .i64 .i64 l.length (by omega) (by omega)
  have B0 := below_new w (.cells (madeCells #[.int .u8 0] l.length) 5)
  have R0 := World.rowIs_made w (.int .u8 0) l.length 5
  obtain ⟨w1, hcp1, hr1, hk1⟩ := copy_row (P := Tryz.prog) 51 51 3 Tryz.underlying51 (by kernel_rfl) 0 l.length l.length R0 a c l (ha.below B0) (by omega) (by omega)
  have hcp2 := run_copy_none (P := Tryz.prog) w1 51 51 3 5 (some ⟨w.heap.size, 0, none⟩) b 0 0 0 d Tryz.underlying51 (by kernel_rfl) (by simp)
  have B1 := Hid.mk' (B0.trans (hk1.below (Nat.le_refl _) (by simp)))
  have R1 := Hid.mk' hr1
  clear hr1 hk1 B0 R0 ha
  go_enter Tryz.func111, Tryz.ntmps111
  go_wp2
  go_ret
  exact ⟨_, rfl, Nat.le_refl _, R1.out.congr (fun j hj => by rw [if_pos (by omega), Nat.sub_zero]), B1.out⟩

set_option maxHeartbeats 400000 in
theorem joinBytes_pos (a b : Option Addr) (c d : Nat) (l m : List Int) (w : World) (ha : BAt w a l) (hb : BAt w b m) (hm : 0 < m.length) (hl : (l.length : Int) + m.length ≤ 2097152) :
    Calls Tryz.prog 111 #[.slice a l.length c, .slice b m.length d] w fun e w' => ∃ g, e = .returned (.slice (some ⟨g, 0, none⟩) (l.length + m.length) (l.length + m.length)) ∧ w.heap.size ≤ g ∧ w'.rowIs g 5 (l.length + m.length) (bv (l ++ m)) ∧ Below w.heap.size w w' := by
  have hmk := run_make_row' (P := Tryz.prog) 51 5 (.int .u8 0) 1 Tryz.underlying51 Tryz.info5 rfl .i64 .i64 (l.length + m.length) (by omega) (by omega)
  have ec : ((l.length + m.length : Nat) : Int) = (l.length : Int) + (m.length : Int) := by omega
  rw [ec] at hmk
  clear ec
  have B0 := below_new w (.cells (madeCells #[.int .u8 0] (l.length + m.length)) 5)
  have R0 := World.rowIs_made w (.int .u8 0) (l.length + m.length) 5
  obtain ⟨w1, hcp1, hr1, hk1⟩ := copy_row (P := Tryz.prog) 51 51 3 Tryz.underlying51 (by kernel_rfl) 0 (l.length + m.length) (l.length + m.length) R0 a c l (ha.below B0) (by omega) (by omega)
  have B1 := B0.trans (hk1.below (Nat.le_refl _) (by simp))
  obtain ⟨w2, hcp2, hr2, hk2⟩ := copy_row (P := Tryz.prog) 51 51 3 Tryz.underlying51 (by kernel_rfl) l.length m.length m.length hr1 b d m (hb.below B1) (by omega) (by omega)
  have B2 := Hid.mk' (B1.trans (hk2.below (Nat.le_refl _) (by have := hr1.lt; omega)))
  have R2 := Hid.mk' hr2
  have hm0 : ¬ m.length = 0 := by omega
  clear hr1 hr2 hk1 hk2 B0 B1 R0 ha hb
  go_enter Tryz.func111, Tryz.ntmps111
  go_wp2
  go_ret
  refine ⟨_, rfl, Nat.le_refl _, R2.out.congr (fun j hj => ?_), B2.out⟩
  by_cases c1 : j < l.length
  · rw [if_neg (by omega), if_pos (by omega), bv_append_left _ _ _ c1, Nat.sub_zero]
  · rw [if_pos (by omega), bv_append_right _ _ _ (by omega)]

/-- The pieces of a new table. -/
def newPcs (l : List Int) : List PC := if l.length = 0 then [] else [⟨false, 0, l.length⟩]
/-- A new table. -/
def newT (l : List Int) : TB := ⟨l, [], newPcs l⟩

end Go.Proofs.YthhdfbgjdfoalaaGreatDoor

/- Walks: NewTable, both sides. -/
namespace Go.Proofs.YthhdfbgjdfoalaaGreatDoor
open Go.RowKit
set_option linter.unusedVariables false

/-- The code of a new table, and the table beside it. -/
def newCode (l : List Int) : Int := if 240 < l.length then 6 else 0
def newTR (l : List Int) : TB := if 240 < l.length then ⟨[], [], []⟩ else newT l

set_option maxHeartbeats 400000 in
theorem copyBytes_any (a : Option Addr) (c : Nat) (l : List Int) (w : World) (ha : BAt w a l) (hl : (l.length : Int) ≤ 1048576) :
    Calls Tryz.prog 84 #[.slice a l.length c] w fun e w' => ∃ g, e = .returned (.slice (some ⟨g, 0, none⟩) l.length l.length) ∧ w.heap.size ≤ g ∧ w'.rowIs g 5 l.length (bv l) ∧ Below w.heap.size w w' := by
  have K := Hid.mk' (joinBytes_nil a none c 0 l w ha (by omega))
  go_enter Tryz.func84, Tryz.ntmps84
  go_wp2_with fail
  refine K.out.mono ?_
  rintro e w1 ⟨g, rfl, h1, h2, h3⟩
  have H1 := Hid.mk' h2
  have H2 := Hid.mk' h3
  clear K h2 h3
  go_wp2
  go_ret
  exact ⟨g, rfl, h1, H1.out, H2.out⟩

theorem ob_of_row {w : World} {g n : Nat} {l : List Int} (e : l.length = n) (h : w.rowIs g 5 n (bv l)) : OB w (.slice (some ⟨g, 0, none⟩) n n) l := by
  subst e; exact .inr ⟨g, _, _, _, rfl, Nat.le_refl _, h, Nat.le_refl _, fun _ _ => rfl⟩

end Go.Proofs.YthhdfbgjdfoalaaGreatDoor
