/- A session copied. -/
import Derived.Test.YtbdjppiagjhfmaaSse
namespace Go.Proofs.Ytbdjppiagjhfmaa
open Go.RowKit
set_option linter.unusedVariables false
set_option linter.unusedSimpArgs false

/-- Whatever lies behind block G stays. -/
def UpG (G : Nat) (w w' : World) : Prop := w.heap.size ≤ w'.heap.size ∧ ∀ q, G < q → q < w.heap.size → w'.heap[q]? = w.heap[q]?

theorem UpG.of_below {G : Nat} {w w' : World} (h : Below w.heap.size w w') : UpG G w w' := ⟨h.size, fun q _ hq => h.block q hq⟩

theorem UpG.cell {G : Nat} {w w' : World} (h : UpG G w w') (i : Nat) (v : Value) : UpG G w (w'.setCell ⟨G, i, none⟩ v) :=
  ⟨by simp [World.setCell]; exact h.1, fun q hq hl => (Deep.blk_setCell_other _ _ _ _ (by show q ≠ G; omega)).trans (h.2 q hq hl)⟩

theorem UpG.trans {G : Nat} {w w' w'' : World} (h : UpG G w w') (h' : UpG G w' w'') : UpG G w w'' :=
  ⟨Nat.le_trans h.1 h'.1, fun q hq hl => (h'.2 q hq (Nat.lt_of_lt_of_le hl h.1)).trans (h.2 q hq hl)⟩

theorem UpG.rowR {G g : Nat} {w w' : World} (h : UpG G w w') (hg : g ≤ G) (cs : Array Value) : UpG G w (w'.setRow g cs) :=
  ⟨by rw [setRow_size]; exact h.1, fun q hq hl => (setRow_other _ _ _ _ (by omega)).trans (h.2 q hq hl)⟩

theorem rowUp {G q : Nat} {ty : TypeId} {n : Nat} {f : Nat → Value} {w w' : World} (h : w.rowIs q ty n f) (u : UpG G w w') (hq : G < q) : w'.rowIs q ty n f := h.of_block (u.2 q hq h.lt)

theorem PX.up {G lo g1 g2 g3 : Nat} {p : PO} {w w' : World} (h : PX lo g1 g2 g3 p w) (u : UpG G w w') (hl : G < lo) : PX lo g1 g2 g3 p w' :=
  ⟨h.1, h.2.1, h.2.2.1, rowUp h.2.2.2.1 u (by have := h.1; omega), rowUp h.2.2.2.2.1 u (by have := h.1; have := h.2.1; omega), rowUp h.2.2.2.2.2 u (by have := h.1; have := h.2.1; have := h.2.2.1; omega)⟩

theorem TRow.up {G B : Nat} {v : Value} {t : TB} {w w' : World} (h : TRow B w v t) (u : UpG G w w') (hl : G < B) : TRow B w' v t := by
  obtain ⟨b1, b2, b3, e, h1, h2, h3, r1, r2, r3⟩ := h
  exact ⟨b1, b2, b3, e, h1, h2, h3, rowUp r1 u (by omega), rowUp r2 u (by omega), rowUp r3 u (by omega)⟩

theorem MX.up {T : World → World → Prop} {G lo gd gt gh gc : Nat} {m : ME} {w w' : World} (h : MX T lo gd gt gh gc m w) (u : UpG G w w') (hl : G < lo) : MX T lo gd gt gh gc m w' :=
  h.keep (fun q hq hs => u.2 q (by omega) hs)

/-- The cells of a session that is none. -/
def se0 : Array Value := #[.slice none 0 0, .slice none 0 0, .slice none 0 0, .slice none 0 0, .slice none 0 0, .slice none 0 0, .slice none 0 0, .int .i64 0, .slice none 0 0, .slice none 0 0, .slice none 0 0, .slice none 0 0, .int .i64 0]

theorem three13 (w : World) (c1 c2 c3 : Array Value) :
    Below w.heap.size w (((w.alloc (.cells c1 59)).alloc (.cells c2 70)).alloc (.cells c3 70)) ∧
    RowA (((w.alloc (.cells c1 59)).alloc (.cells c2 70)).alloc (.cells c3 70)) w.heap.size 59 c1 ∧
    RowA (((w.alloc (.cells c1 59)).alloc (.cells c2 70)).alloc (.cells c3 70)) (w.heap.size + 1) 70 c2 ∧
    RowA (((w.alloc (.cells c1 59)).alloc (.cells c2 70)).alloc (.cells c3 70)) (w.heap.size + 1 + 1) 70 c3 := by
  have a1 := RowA.new w 59 c1
  have a2 := RowA.new (w.alloc (.cells c1 59)) 70 c2
  have a3 := RowA.new ((w.alloc (.cells c1 59)).alloc (.cells c2 70)) 70 c3
  have b1 := below_new (w.alloc (.cells c1 59)) (.cells c2 70)
  have b2 := below_new ((w.alloc (.cells c1 59)).alloc (.cells c2 70)) (.cells c3 70)
  have e1 : (w.alloc (.cells c1 59)).heap.size = w.heap.size + 1 := by simp
  have e2 : ((w.alloc (.cells c1 59)).alloc (.cells c2 70)).heap.size = w.heap.size + 1 + 1 := by simp
  rw [e1] at a2
  rw [e2] at a3
  exact ⟨((below_new w _).alloc (by omega) _).alloc (by omega) _, (a1.below b1).below b2, a2.below b2, a3⟩

theorem se_made {w : World} {s : SE} {B1 B2 B3 g1 g2 g3 h1 h2 h3 gd gt gh gc q : Nat} (X1 : PX B1 g1 g2 g3 s.po w) (X2 : TRow B2 w (.agg #[.slice (some ⟨h1, 0, none⟩) s.tb.base.length s.tb.base.length, .slice (some ⟨h2, 0, none⟩) s.tb.more.length s.tb.more.length, .slice (some ⟨h3, 0, none⟩) s.tb.pcs.length s.tb.pcs.length]) s.tb) (X3 : MX (fun wa wb => TR wa s.me.tk s.me.tk.length wb) B3 gd gt gh gc s.me w) (X4 : w.rowIs q 5 s.ou.length (bv s.ou)) :
    SEAt w s ⟨some ⟨g1, 0, none⟩, some ⟨g2, 0, none⟩, some ⟨g3, 0, none⟩, some ⟨h1, 0, none⟩, some ⟨h2, 0, none⟩, some ⟨h3, 0, none⟩, some ⟨gd, 0, none⟩, some ⟨gt, 0, none⟩, some ⟨gh, 0, none⟩, some ⟨gc, 0, none⟩, some ⟨q, 0, none⟩, s.po.tg.length, s.po.at_.length, s.po.sc.length, s.tb.base.length, s.tb.more.length, s.tb.pcs.length, s.me.dt.length, s.me.tk.length, s.me.hd.length, s.me.cs.length, s.ou.length⟩ := by
  obtain ⟨b1, b2, b3, e, _, _, _, r1, r2, r3⟩ := X2
  simp at e
  obtain ⟨rfl, rfl, rfl⟩ := e
  exact ⟨X1.at, .of_row r1, .of_row r2, .of_row r3, X3.at, .of_row X4⟩

set_option maxRecDepth 100000 in
set_option maxHeartbeats 6400000 in
theorem toSession_any (s : SE) (x : SX) (w : World) (ha : SEAt w s x) (hl : (sesz s : Int) ≤ 1048576) :
    Calls Try.prog 25 #[.agg (seV s x)] w fun e w' => ∃ y, e = .returned (.agg (seV s y)) ∧ SEAt w' s y ∧ Below w.heap.size w w' := by
  have SS : sesz s = psz s.po + (s.tb.base.length + s.tb.more.length + s.tb.pcs.length) + msz s.me + s.ou.length := rfl
  have l1 : (psz s.po : Int) ≤ 1048576 := by omega
  have l2 : (s.tb.base.length : Int) + s.tb.more.length + s.tb.pcs.length ≤ 1048576 := by omega
  have l3 : (msz s.me : Int) ≤ 1048576 := by omega
  have l4 : (s.ou.length : Int) ≤ 1048576 := by omega
  clear SS hl
  obtain ⟨B0, P0, T0, O0⟩ := three13 w (seV s x) #[.slice none 0 0, .slice none 0 0, .slice none 0 0, .slice none 0 0, .slice none 0 0, .slice none 0 0, .slice none 0 0, .int .i64 0, .slice none 0 0, .slice none 0 0, .slice none 0 0, .slice none 0 0, .int .i64 0] #[.slice none 0 0, .slice none 0 0, .slice none 0 0, .slice none 0 0, .slice none 0 0, .slice none 0 0, .slice none 0 0, .int .i64 0, .slice none 0 0, .slice none 0 0, .slice none 0 0, .slice none 0 0, .int .i64 0]
  have HA := Hid.mk' ha
  have HB := Hid.mk' B0
  have HP := Hid.mk' P0
  have HT := Hid.mk' T0
  have HO := Hid.mk' O0
  have LE : Hid ((((w.alloc (.cells (seV s x) 59)).alloc (.cells #[.slice none 0 0, .slice none 0 0, .slice none 0 0, .slice none 0 0, .slice none 0 0, .slice none 0 0, .slice none 0 0, .int .i64 0, .slice none 0 0, .slice none 0 0, .slice none 0 0, .slice none 0 0, .int .i64 0] 70)).alloc (.cells #[.slice none 0 0, .slice none 0 0, .slice none 0 0, .slice none 0 0, .slice none 0 0, .slice none 0 0, .slice none 0 0, .int .i64 0, .slice none 0 0, .slice none 0 0, .slice none 0 0, .slice none 0 0, .int .i64 0] 70)).heap.size = w.heap.size + 1 + 1 + 1) := Hid.mk' (by simp)
  clear B0 P0 T0 O0 ha
  generalize hV : (((w.alloc (.cells (seV s x) 59)).alloc (.cells #[.slice none 0 0, .slice none 0 0, .slice none 0 0, .slice none 0 0, .slice none 0 0, .slice none 0 0, .slice none 0 0, .int .i64 0, .slice none 0 0, .slice none 0 0, .slice none 0 0, .slice none 0 0, .int .i64 0] 70)).alloc (.cells #[.slice none 0 0, .slice none 0 0, .slice none 0 0, .slice none 0 0, .slice none 0 0, .slice none 0 0, .slice none 0 0, .int .i64 0, .slice none 0 0, .slice none 0 0, .slice none 0 0, .slice none 0 0, .int .i64 0] 70)) = V at *
  have KP := Hid.mk' (toPolicy_any s.po x.p1 x.p2 x.p3 x.n1 x.n2 x.n3 V (HA.out.below HB.out).po l1)
  obtain ⟨x0, x1, x2, x3, x4, x5, x6, x8, x9, x10, x11, x7, x12, xl⟩ := se_cells HP.out
  go_enter Try.func25, Try.ntmps25
  go_wp2_with fail
  clear hV x0 x1 x2 x3 x4 x5 x6 x7 x8 x9 x10 x11 x12 xl
  refine KP.out.mono ?_
  rintro e w1 ⟨g1, g2, g3, rfl, hx, hb⟩
  have le := LE.out
  have o2 := HO.out.below hb
  have t2 := HT.out.below hb
  have p2_ := HP.out.below hb
  have bq := HB.out.trans (hb.mono HB.out.size)
  have zO := o2.lt
  have c0 := o2.cell 0 (.slice none 0 0) rfl
  have f0 := o2.frozen 0
  have c1 := o2.cell 1 (.slice none 0 0) rfl
  have f1 := o2.frozen 1
  have c2 := o2.cell 2 (.slice none 0 0) rfl
  have f2 := o2.frozen 2
  have HO : Hid (RowA (((w1.setCell ⟨w.heap.size + 1 + 1, 0, none⟩ (.slice (some ⟨g1, 0, none⟩) s.po.tg.length s.po.tg.length)).setCell ⟨w.heap.size + 1 + 1, 1, none⟩ (.slice (some ⟨g2, 0, none⟩) s.po.at_.length s.po.at_.length)).setCell ⟨w.heap.size + 1 + 1, 2, none⟩ (.slice (some ⟨g3, 0, none⟩) s.po.sc.length s.po.sc.length)) (w.heap.size + 1 + 1) 70 #[.slice (some ⟨g1, 0, none⟩) s.po.tg.length s.po.tg.length, .slice (some ⟨g2, 0, none⟩) s.po.at_.length s.po.at_.length, .slice (some ⟨g3, 0, none⟩) s.po.sc.length s.po.sc.length, .slice none 0 0, .slice none 0 0, .slice none 0 0, .slice none 0 0, .int .i64 0, .slice none 0 0, .slice none 0 0, .slice none 0 0, .slice none 0 0, .int .i64 0]) := Hid.mk' (((o2.set 0 (.slice (some ⟨g1, 0, none⟩) s.po.tg.length s.po.tg.length)).set 1 (.slice (some ⟨g2, 0, none⟩) s.po.at_.length s.po.at_.length)).set 2 (.slice (some ⟨g3, 0, none⟩) s.po.sc.length s.po.sc.length))
  have HT := Hid.mk' (((t2.other (a := ⟨w.heap.size + 1 + 1, 0, none⟩) (by show w.heap.size + 1 ≠ w.heap.size + 1 + 1; omega) (.slice (some ⟨g1, 0, none⟩) s.po.tg.length s.po.tg.length)).other (a := ⟨w.heap.size + 1 + 1, 1, none⟩) (by show w.heap.size + 1 ≠ w.heap.size + 1 + 1; omega) (.slice (some ⟨g2, 0, none⟩) s.po.at_.length s.po.at_.length)).other (a := ⟨w.heap.size + 1 + 1, 2, none⟩) (by show w.heap.size + 1 ≠ w.heap.size + 1 + 1; omega) (.slice (some ⟨g3, 0, none⟩) s.po.sc.length s.po.sc.length))
  have HP := Hid.mk' (((p2_.other (a := ⟨w.heap.size + 1 + 1, 0, none⟩) (by show w.heap.size ≠ w.heap.size + 1 + 1; omega) (.slice (some ⟨g1, 0, none⟩) s.po.tg.length s.po.tg.length)).other (a := ⟨w.heap.size + 1 + 1, 1, none⟩) (by show w.heap.size ≠ w.heap.size + 1 + 1; omega) (.slice (some ⟨g2, 0, none⟩) s.po.at_.length s.po.at_.length)).other (a := ⟨w.heap.size + 1 + 1, 2, none⟩) (by show w.heap.size ≠ w.heap.size + 1 + 1; omega) (.slice (some ⟨g3, 0, none⟩) s.po.sc.length s.po.sc.length))
  have HB := Hid.mk' (RowA.setBelow (g := w.heap.size + 1 + 1) (RowA.setBelow (g := w.heap.size + 1 + 1) (RowA.setBelow (g := w.heap.size + 1 + 1) bq (by omega) 0 (.slice (some ⟨g1, 0, none⟩) s.po.tg.length s.po.tg.length)) (by omega) 1 (.slice (some ⟨g2, 0, none⟩) s.po.at_.length s.po.at_.length)) (by omega) 2 (.slice (some ⟨g3, 0, none⟩) s.po.sc.length s.po.sc.length))
  have UU : UpG (w.heap.size + 1 + 1) V (((w1.setCell ⟨w.heap.size + 1 + 1, 0, none⟩ (.slice (some ⟨g1, 0, none⟩) s.po.tg.length s.po.tg.length)).setCell ⟨w.heap.size + 1 + 1, 1, none⟩ (.slice (some ⟨g2, 0, none⟩) s.po.at_.length s.po.at_.length)).setCell ⟨w.heap.size + 1 + 1, 2, none⟩ (.slice (some ⟨g3, 0, none⟩) s.po.sc.length s.po.sc.length)) := ((((UpG.of_below (G := w.heap.size + 1 + 1) hb).cell 0 (.slice (some ⟨g1, 0, none⟩) s.po.tg.length s.po.tg.length)).cell 1 (.slice (some ⟨g2, 0, none⟩) s.po.at_.length s.po.at_.length)).cell 2 (.slice (some ⟨g3, 0, none⟩) s.po.sc.length s.po.sc.length))
  have U0 : UpG (w.heap.size + 1 + 1) w1 (((w1.setCell ⟨w.heap.size + 1 + 1, 0, none⟩ (.slice (some ⟨g1, 0, none⟩) s.po.tg.length s.po.tg.length)).setCell ⟨w.heap.size + 1 + 1, 1, none⟩ (.slice (some ⟨g2, 0, none⟩) s.po.at_.length s.po.at_.length)).setCell ⟨w.heap.size + 1 + 1, 2, none⟩ (.slice (some ⟨g3, 0, none⟩) s.po.sc.length s.po.sc.length)) := ((((UpG.of_below (G := w.heap.size + 1 + 1) (Below.refl _ w1)).cell 0 (.slice (some ⟨g1, 0, none⟩) s.po.tg.length s.po.tg.length)).cell 1 (.slice (some ⟨g2, 0, none⟩) s.po.at_.length s.po.at_.length)).cell 2 (.slice (some ⟨g3, 0, none⟩) s.po.sc.length s.po.sc.length))
  have X1 := Hid.mk' (hx.up U0 (by omega))
  have L1 : Hid (w.heap.size + 1 + 1 < V.heap.size) := Hid.mk' (by omega)
  have LE : Hid (w.heap.size + 1 + 1 < (((w1.setCell ⟨w.heap.size + 1 + 1, 0, none⟩ (.slice (some ⟨g1, 0, none⟩) s.po.tg.length s.po.tg.length)).setCell ⟨w.heap.size + 1 + 1, 1, none⟩ (.slice (some ⟨g2, 0, none⟩) s.po.at_.length s.po.at_.length)).setCell ⟨w.heap.size + 1 + 1, 2, none⟩ (.slice (some ⟨g3, 0, none⟩) s.po.sc.length s.po.sc.length)).heap.size) := Hid.mk' HO.out.lt
  clear hx hb o2 t2 p2_ bq zO KP UU U0 le
  generalize hV1 : (((w1.setCell ⟨w.heap.size + 1 + 1, 0, none⟩ (.slice (some ⟨g1, 0, none⟩) s.po.tg.length s.po.tg.length)).setCell ⟨w.heap.size + 1 + 1, 1, none⟩ (.slice (some ⟨g2, 0, none⟩) s.po.at_.length s.po.at_.length)).setCell ⟨w.heap.size + 1 + 1, 2, none⟩ (.slice (some ⟨g3, 0, none⟩) s.po.sc.length s.po.sc.length)) = V1 at *
  have KT := Hid.mk' (toTable_any _ s.tb V1 (HA.out.below HB.out).tb l2)
  obtain ⟨x0, x1, x2, x3, x4, x5, x6, x8, x9, x10, x11, x7, x12, xl⟩ := se_cells HP.out
  go_wp2_with fail
  clear hV1 c0 c1 c2 f0 f1 f2 x0 x1 x2 x3 x4 x5 x6 x7 x8 x9 x10 x11 x12 xl
  refine KT.out.mono ?_
  rintro e w2 ⟨v2, rfl, hx, hb⟩
  obtain ⟨h1, h2, h3, rfl, hh⟩ := id hx
  clear hh
  have le := LE.out
  have o2 := HO.out.below hb
  have t2 := HT.out.below hb
  have p2_ := HP.out.below hb
  have bq := HB.out.trans (hb.mono HB.out.size)
  have zO := o2.lt
  have c3 := o2.cell 3 (.slice none 0 0) rfl
  have f3 := o2.frozen 3
  have c4 := o2.cell 4 (.slice none 0 0) rfl
  have f4 := o2.frozen 4
  have c5 := o2.cell 5 (.slice none 0 0) rfl
  have f5 := o2.frozen 5
  have HO : Hid (RowA (((w2.setCell ⟨w.heap.size + 1 + 1, 3, none⟩ (.slice (some ⟨h1, 0, none⟩) s.tb.base.length s.tb.base.length)).setCell ⟨w.heap.size + 1 + 1, 4, none⟩ (.slice (some ⟨h2, 0, none⟩) s.tb.more.length s.tb.more.length)).setCell ⟨w.heap.size + 1 + 1, 5, none⟩ (.slice (some ⟨h3, 0, none⟩) s.tb.pcs.length s.tb.pcs.length)) (w.heap.size + 1 + 1) 70 #[.slice (some ⟨g1, 0, none⟩) s.po.tg.length s.po.tg.length, .slice (some ⟨g2, 0, none⟩) s.po.at_.length s.po.at_.length, .slice (some ⟨g3, 0, none⟩) s.po.sc.length s.po.sc.length, .slice (some ⟨h1, 0, none⟩) s.tb.base.length s.tb.base.length, .slice (some ⟨h2, 0, none⟩) s.tb.more.length s.tb.more.length, .slice (some ⟨h3, 0, none⟩) s.tb.pcs.length s.tb.pcs.length, .slice none 0 0, .int .i64 0, .slice none 0 0, .slice none 0 0, .slice none 0 0, .slice none 0 0, .int .i64 0]) := Hid.mk' (((o2.set 3 (.slice (some ⟨h1, 0, none⟩) s.tb.base.length s.tb.base.length)).set 4 (.slice (some ⟨h2, 0, none⟩) s.tb.more.length s.tb.more.length)).set 5 (.slice (some ⟨h3, 0, none⟩) s.tb.pcs.length s.tb.pcs.length))
  have HT := Hid.mk' (((t2.other (a := ⟨w.heap.size + 1 + 1, 3, none⟩) (by show w.heap.size + 1 ≠ w.heap.size + 1 + 1; omega) (.slice (some ⟨h1, 0, none⟩) s.tb.base.length s.tb.base.length)).other (a := ⟨w.heap.size + 1 + 1, 4, none⟩) (by show w.heap.size + 1 ≠ w.heap.size + 1 + 1; omega) (.slice (some ⟨h2, 0, none⟩) s.tb.more.length s.tb.more.length)).other (a := ⟨w.heap.size + 1 + 1, 5, none⟩) (by show w.heap.size + 1 ≠ w.heap.size + 1 + 1; omega) (.slice (some ⟨h3, 0, none⟩) s.tb.pcs.length s.tb.pcs.length))
  have HP := Hid.mk' (((p2_.other (a := ⟨w.heap.size + 1 + 1, 3, none⟩) (by show w.heap.size ≠ w.heap.size + 1 + 1; omega) (.slice (some ⟨h1, 0, none⟩) s.tb.base.length s.tb.base.length)).other (a := ⟨w.heap.size + 1 + 1, 4, none⟩) (by show w.heap.size ≠ w.heap.size + 1 + 1; omega) (.slice (some ⟨h2, 0, none⟩) s.tb.more.length s.tb.more.length)).other (a := ⟨w.heap.size + 1 + 1, 5, none⟩) (by show w.heap.size ≠ w.heap.size + 1 + 1; omega) (.slice (some ⟨h3, 0, none⟩) s.tb.pcs.length s.tb.pcs.length))
  have HB := Hid.mk' (RowA.setBelow (g := w.heap.size + 1 + 1) (RowA.setBelow (g := w.heap.size + 1 + 1) (RowA.setBelow (g := w.heap.size + 1 + 1) bq (by omega) 3 (.slice (some ⟨h1, 0, none⟩) s.tb.base.length s.tb.base.length)) (by omega) 4 (.slice (some ⟨h2, 0, none⟩) s.tb.more.length s.tb.more.length)) (by omega) 5 (.slice (some ⟨h3, 0, none⟩) s.tb.pcs.length s.tb.pcs.length))
  have UU : UpG (w.heap.size + 1 + 1) V1 (((w2.setCell ⟨w.heap.size + 1 + 1, 3, none⟩ (.slice (some ⟨h1, 0, none⟩) s.tb.base.length s.tb.base.length)).setCell ⟨w.heap.size + 1 + 1, 4, none⟩ (.slice (some ⟨h2, 0, none⟩) s.tb.more.length s.tb.more.length)).setCell ⟨w.heap.size + 1 + 1, 5, none⟩ (.slice (some ⟨h3, 0, none⟩) s.tb.pcs.length s.tb.pcs.length)) := ((((UpG.of_below (G := w.heap.size + 1 + 1) hb).cell 3 (.slice (some ⟨h1, 0, none⟩) s.tb.base.length s.tb.base.length)).cell 4 (.slice (some ⟨h2, 0, none⟩) s.tb.more.length s.tb.more.length)).cell 5 (.slice (some ⟨h3, 0, none⟩) s.tb.pcs.length s.tb.pcs.length))
  have U0 : UpG (w.heap.size + 1 + 1) w2 (((w2.setCell ⟨w.heap.size + 1 + 1, 3, none⟩ (.slice (some ⟨h1, 0, none⟩) s.tb.base.length s.tb.base.length)).setCell ⟨w.heap.size + 1 + 1, 4, none⟩ (.slice (some ⟨h2, 0, none⟩) s.tb.more.length s.tb.more.length)).setCell ⟨w.heap.size + 1 + 1, 5, none⟩ (.slice (some ⟨h3, 0, none⟩) s.tb.pcs.length s.tb.pcs.length)) := ((((UpG.of_below (G := w.heap.size + 1 + 1) (Below.refl _ w2)).cell 3 (.slice (some ⟨h1, 0, none⟩) s.tb.base.length s.tb.base.length)).cell 4 (.slice (some ⟨h2, 0, none⟩) s.tb.more.length s.tb.more.length)).cell 5 (.slice (some ⟨h3, 0, none⟩) s.tb.pcs.length s.tb.pcs.length))
  have X1 := Hid.mk' (X1.out.up UU L1.out)
  have X2 := Hid.mk' (hx.up U0 le)
  have L2 : Hid (w.heap.size + 1 + 1 < V1.heap.size) := Hid.mk' le
  have LE : Hid (w.heap.size + 1 + 1 < (((w2.setCell ⟨w.heap.size + 1 + 1, 3, none⟩ (.slice (some ⟨h1, 0, none⟩) s.tb.base.length s.tb.base.length)).setCell ⟨w.heap.size + 1 + 1, 4, none⟩ (.slice (some ⟨h2, 0, none⟩) s.tb.more.length s.tb.more.length)).setCell ⟨w.heap.size + 1 + 1, 5, none⟩ (.slice (some ⟨h3, 0, none⟩) s.tb.pcs.length s.tb.pcs.length)).heap.size) := Hid.mk' HO.out.lt
  clear hx hb o2 t2 p2_ bq zO KT UU U0 le
  generalize hV2 : (((w2.setCell ⟨w.heap.size + 1 + 1, 3, none⟩ (.slice (some ⟨h1, 0, none⟩) s.tb.base.length s.tb.base.length)).setCell ⟨w.heap.size + 1 + 1, 4, none⟩ (.slice (some ⟨h2, 0, none⟩) s.tb.more.length s.tb.more.length)).setCell ⟨w.heap.size + 1 + 1, 5, none⟩ (.slice (some ⟨h3, 0, none⟩) s.tb.pcs.length s.tb.pcs.length)) = V2 at *
  have KM := Hid.mk' (toMemo_gen (fun wa wb => TR wa s.me.tk s.me.tk.length wb) s.me x.c1 x.c2 x.c3 x.c4 x.l1 x.l2 x.l3 x.l4 V2 (HA.out.below HB.out).me l3 (fun v hv => (toTokenS_any x.c2 x.l2 s.me.tk v hv (by have : (msz s.me : Int) = s.me.dt.length + s.me.tk.length + tssz s.me.tk + s.me.hd.length + s.me.cs.length + csz s.me.cs := (by unfold msz; omega); omega)).mono (by rintro e v' ⟨rfl, h⟩; exact ⟨rfl, h, h.bl⟩)))
  obtain ⟨x0, x1, x2, x3, x4, x5, x6, x8, x9, x10, x11, x7, x12, xl⟩ := se_cells HP.out
  go_wp2_with fail
  clear hV2 c3 c4 c5 f3 f4 f5 x0 x1 x2 x3 x4 x5 x6 x7 x8 x9 x10 x11 x12 xl
  refine KM.out.mono ?_
  rintro e w3 ⟨gd, gt, gh, gc, rfl, hx, hb⟩
  have le := LE.out
  have o2 := HO.out.below hb
  have t2 := HT.out.below hb
  have p2_ := HP.out.below hb
  have bq := HB.out.trans (hb.mono HB.out.size)
  have zO := o2.lt
  have c6 := o2.cell 6 (.slice none 0 0) rfl
  have f6 := o2.frozen 6
  have c7 := o2.cell 7 (.int .i64 0) rfl
  have f7 := o2.frozen 7
  have c8 := o2.cell 8 (.slice none 0 0) rfl
  have f8 := o2.frozen 8
  have c9 := o2.cell 9 (.slice none 0 0) rfl
  have f9 := o2.frozen 9
  have c10 := o2.cell 10 (.slice none 0 0) rfl
  have f10 := o2.frozen 10
  have HO : Hid (RowA (((((w3.setCell ⟨w.heap.size + 1 + 1, 6, none⟩ (.slice (some ⟨gd, 0, none⟩) s.me.dt.length s.me.dt.length)).setCell ⟨w.heap.size + 1 + 1, 7, none⟩ (.int .i64 s.me.st)).setCell ⟨w.heap.size + 1 + 1, 8, none⟩ (.slice (some ⟨gt, 0, none⟩) s.me.tk.length s.me.tk.length)).setCell ⟨w.heap.size + 1 + 1, 9, none⟩ (.slice (some ⟨gh, 0, none⟩) s.me.hd.length s.me.hd.length)).setCell ⟨w.heap.size + 1 + 1, 10, none⟩ (.slice (some ⟨gc, 0, none⟩) s.me.cs.length s.me.cs.length)) (w.heap.size + 1 + 1) 70 #[.slice (some ⟨g1, 0, none⟩) s.po.tg.length s.po.tg.length, .slice (some ⟨g2, 0, none⟩) s.po.at_.length s.po.at_.length, .slice (some ⟨g3, 0, none⟩) s.po.sc.length s.po.sc.length, .slice (some ⟨h1, 0, none⟩) s.tb.base.length s.tb.base.length, .slice (some ⟨h2, 0, none⟩) s.tb.more.length s.tb.more.length, .slice (some ⟨h3, 0, none⟩) s.tb.pcs.length s.tb.pcs.length, .slice (some ⟨gd, 0, none⟩) s.me.dt.length s.me.dt.length, .int .i64 s.me.st, .slice (some ⟨gt, 0, none⟩) s.me.tk.length s.me.tk.length, .slice (some ⟨gh, 0, none⟩) s.me.hd.length s.me.hd.length, .slice (some ⟨gc, 0, none⟩) s.me.cs.length s.me.cs.length, .slice none 0 0, .int .i64 0]) := Hid.mk' (((((o2.set 6 (.slice (some ⟨gd, 0, none⟩) s.me.dt.length s.me.dt.length)).set 7 (.int .i64 s.me.st)).set 8 (.slice (some ⟨gt, 0, none⟩) s.me.tk.length s.me.tk.length)).set 9 (.slice (some ⟨gh, 0, none⟩) s.me.hd.length s.me.hd.length)).set 10 (.slice (some ⟨gc, 0, none⟩) s.me.cs.length s.me.cs.length))
  have HT := Hid.mk' (((((t2.other (a := ⟨w.heap.size + 1 + 1, 6, none⟩) (by show w.heap.size + 1 ≠ w.heap.size + 1 + 1; omega) (.slice (some ⟨gd, 0, none⟩) s.me.dt.length s.me.dt.length)).other (a := ⟨w.heap.size + 1 + 1, 7, none⟩) (by show w.heap.size + 1 ≠ w.heap.size + 1 + 1; omega) (.int .i64 s.me.st)).other (a := ⟨w.heap.size + 1 + 1, 8, none⟩) (by show w.heap.size + 1 ≠ w.heap.size + 1 + 1; omega) (.slice (some ⟨gt, 0, none⟩) s.me.tk.length s.me.tk.length)).other (a := ⟨w.heap.size + 1 + 1, 9, none⟩) (by show w.heap.size + 1 ≠ w.heap.size + 1 + 1; omega) (.slice (some ⟨gh, 0, none⟩) s.me.hd.length s.me.hd.length)).other (a := ⟨w.heap.size + 1 + 1, 10, none⟩) (by show w.heap.size + 1 ≠ w.heap.size + 1 + 1; omega) (.slice (some ⟨gc, 0, none⟩) s.me.cs.length s.me.cs.length))
  have HP := Hid.mk' (((((p2_.other (a := ⟨w.heap.size + 1 + 1, 6, none⟩) (by show w.heap.size ≠ w.heap.size + 1 + 1; omega) (.slice (some ⟨gd, 0, none⟩) s.me.dt.length s.me.dt.length)).other (a := ⟨w.heap.size + 1 + 1, 7, none⟩) (by show w.heap.size ≠ w.heap.size + 1 + 1; omega) (.int .i64 s.me.st)).other (a := ⟨w.heap.size + 1 + 1, 8, none⟩) (by show w.heap.size ≠ w.heap.size + 1 + 1; omega) (.slice (some ⟨gt, 0, none⟩) s.me.tk.length s.me.tk.length)).other (a := ⟨w.heap.size + 1 + 1, 9, none⟩) (by show w.heap.size ≠ w.heap.size + 1 + 1; omega) (.slice (some ⟨gh, 0, none⟩) s.me.hd.length s.me.hd.length)).other (a := ⟨w.heap.size + 1 + 1, 10, none⟩) (by show w.heap.size ≠ w.heap.size + 1 + 1; omega) (.slice (some ⟨gc, 0, none⟩) s.me.cs.length s.me.cs.length))
  have HB := Hid.mk' (RowA.setBelow (g := w.heap.size + 1 + 1) (RowA.setBelow (g := w.heap.size + 1 + 1) (RowA.setBelow (g := w.heap.size + 1 + 1) (RowA.setBelow (g := w.heap.size + 1 + 1) (RowA.setBelow (g := w.heap.size + 1 + 1) bq (by omega) 6 (.slice (some ⟨gd, 0, none⟩) s.me.dt.length s.me.dt.length)) (by omega) 7 (.int .i64 s.me.st)) (by omega) 8 (.slice (some ⟨gt, 0, none⟩) s.me.tk.length s.me.tk.length)) (by omega) 9 (.slice (some ⟨gh, 0, none⟩) s.me.hd.length s.me.hd.length)) (by omega) 10 (.slice (some ⟨gc, 0, none⟩) s.me.cs.length s.me.cs.length))
  have UU : UpG (w.heap.size + 1 + 1) V2 (((((w3.setCell ⟨w.heap.size + 1 + 1, 6, none⟩ (.slice (some ⟨gd, 0, none⟩) s.me.dt.length s.me.dt.length)).setCell ⟨w.heap.size + 1 + 1, 7, none⟩ (.int .i64 s.me.st)).setCell ⟨w.heap.size + 1 + 1, 8, none⟩ (.slice (some ⟨gt, 0, none⟩) s.me.tk.length s.me.tk.length)).setCell ⟨w.heap.size + 1 + 1, 9, none⟩ (.slice (some ⟨gh, 0, none⟩) s.me.hd.length s.me.hd.length)).setCell ⟨w.heap.size + 1 + 1, 10, none⟩ (.slice (some ⟨gc, 0, none⟩) s.me.cs.length s.me.cs.length)) := ((((((UpG.of_below (G := w.heap.size + 1 + 1) hb).cell 6 (.slice (some ⟨gd, 0, none⟩) s.me.dt.length s.me.dt.length)).cell 7 (.int .i64 s.me.st)).cell 8 (.slice (some ⟨gt, 0, none⟩) s.me.tk.length s.me.tk.length)).cell 9 (.slice (some ⟨gh, 0, none⟩) s.me.hd.length s.me.hd.length)).cell 10 (.slice (some ⟨gc, 0, none⟩) s.me.cs.length s.me.cs.length))
  have U0 : UpG (w.heap.size + 1 + 1) w3 (((((w3.setCell ⟨w.heap.size + 1 + 1, 6, none⟩ (.slice (some ⟨gd, 0, none⟩) s.me.dt.length s.me.dt.length)).setCell ⟨w.heap.size + 1 + 1, 7, none⟩ (.int .i64 s.me.st)).setCell ⟨w.heap.size + 1 + 1, 8, none⟩ (.slice (some ⟨gt, 0, none⟩) s.me.tk.length s.me.tk.length)).setCell ⟨w.heap.size + 1 + 1, 9, none⟩ (.slice (some ⟨gh, 0, none⟩) s.me.hd.length s.me.hd.length)).setCell ⟨w.heap.size + 1 + 1, 10, none⟩ (.slice (some ⟨gc, 0, none⟩) s.me.cs.length s.me.cs.length)) := ((((((UpG.of_below (G := w.heap.size + 1 + 1) (Below.refl _ w3)).cell 6 (.slice (some ⟨gd, 0, none⟩) s.me.dt.length s.me.dt.length)).cell 7 (.int .i64 s.me.st)).cell 8 (.slice (some ⟨gt, 0, none⟩) s.me.tk.length s.me.tk.length)).cell 9 (.slice (some ⟨gh, 0, none⟩) s.me.hd.length s.me.hd.length)).cell 10 (.slice (some ⟨gc, 0, none⟩) s.me.cs.length s.me.cs.length))
  have X1 := Hid.mk' (X1.out.up UU L1.out)
  have X2 := Hid.mk' (X2.out.up UU L2.out)
  have X3 := Hid.mk' (hx.up U0 le)
  have L3 : Hid (w.heap.size + 1 + 1 < V2.heap.size) := Hid.mk' le
  have LE : Hid (w.heap.size + 1 + 1 < (((((w3.setCell ⟨w.heap.size + 1 + 1, 6, none⟩ (.slice (some ⟨gd, 0, none⟩) s.me.dt.length s.me.dt.length)).setCell ⟨w.heap.size + 1 + 1, 7, none⟩ (.int .i64 s.me.st)).setCell ⟨w.heap.size + 1 + 1, 8, none⟩ (.slice (some ⟨gt, 0, none⟩) s.me.tk.length s.me.tk.length)).setCell ⟨w.heap.size + 1 + 1, 9, none⟩ (.slice (some ⟨gh, 0, none⟩) s.me.hd.length s.me.hd.length)).setCell ⟨w.heap.size + 1 + 1, 10, none⟩ (.slice (some ⟨gc, 0, none⟩) s.me.cs.length s.me.cs.length)).heap.size) := Hid.mk' HO.out.lt
  have HU := Hid.mk' (HT.out)
  clear hx hb o2 t2 p2_ bq zO KM UU U0 le
  generalize hV3 : (((((w3.setCell ⟨w.heap.size + 1 + 1, 6, none⟩ (.slice (some ⟨gd, 0, none⟩) s.me.dt.length s.me.dt.length)).setCell ⟨w.heap.size + 1 + 1, 7, none⟩ (.int .i64 s.me.st)).setCell ⟨w.heap.size + 1 + 1, 8, none⟩ (.slice (some ⟨gt, 0, none⟩) s.me.tk.length s.me.tk.length)).setCell ⟨w.heap.size + 1 + 1, 9, none⟩ (.slice (some ⟨gh, 0, none⟩) s.me.hd.length s.me.hd.length)).setCell ⟨w.heap.size + 1 + 1, 10, none⟩ (.slice (some ⟨gc, 0, none⟩) s.me.cs.length s.me.cs.length)) = V3 at *
  have KB := Hid.mk' (toByteS_any x.d1 x.j1 s.ou V3 (HA.out.below HB.out).ou l4)
  obtain ⟨x0, x1, x2, x3, x4, x5, x6, x8, x9, x10, x11, x7, x12, xl⟩ := se_cells HP.out
  go_wp2_with fail
  clear hV3 c6 c7 c8 c9 c10 f6 f7 f8 f9 f10 x0 x1 x2 x3 x4 x5 x6 x7 x8 x9 x10 x11 x12 xl
  refine KB.out.mono ?_
  rintro e w4 ⟨q, rfl, hq, hr, hb⟩
  have le := LE.out
  have o2 := HO.out.below hb
  have t2 := HT.out.below hb
  have p2_ := HP.out.below hb
  have bq := HB.out.trans (hb.mono HB.out.size)
  have zO := o2.lt
  have c11 := o2.cell 11 (.slice none 0 0) rfl
  have f11 := o2.frozen 11
  have c12 := o2.cell 12 (.int .i64 0) rfl
  have f12 := o2.frozen 12
  have HO : Hid (RowA ((w4.setCell ⟨w.heap.size + 1 + 1, 11, none⟩ (.slice (some ⟨q, 0, none⟩) s.ou.length s.ou.length)).setCell ⟨w.heap.size + 1 + 1, 12, none⟩ (.int .i64 s.st)) (w.heap.size + 1 + 1) 70 #[.slice (some ⟨g1, 0, none⟩) s.po.tg.length s.po.tg.length, .slice (some ⟨g2, 0, none⟩) s.po.at_.length s.po.at_.length, .slice (some ⟨g3, 0, none⟩) s.po.sc.length s.po.sc.length, .slice (some ⟨h1, 0, none⟩) s.tb.base.length s.tb.base.length, .slice (some ⟨h2, 0, none⟩) s.tb.more.length s.tb.more.length, .slice (some ⟨h3, 0, none⟩) s.tb.pcs.length s.tb.pcs.length, .slice (some ⟨gd, 0, none⟩) s.me.dt.length s.me.dt.length, .int .i64 s.me.st, .slice (some ⟨gt, 0, none⟩) s.me.tk.length s.me.tk.length, .slice (some ⟨gh, 0, none⟩) s.me.hd.length s.me.hd.length, .slice (some ⟨gc, 0, none⟩) s.me.cs.length s.me.cs.length, .slice (some ⟨q, 0, none⟩) s.ou.length s.ou.length, .int .i64 s.st]) := Hid.mk' ((o2.set 11 (.slice (some ⟨q, 0, none⟩) s.ou.length s.ou.length)).set 12 (.int .i64 s.st))
  have HT := Hid.mk' ((t2.other (a := ⟨w.heap.size + 1 + 1, 11, none⟩) (by show w.heap.size + 1 ≠ w.heap.size + 1 + 1; omega) (.slice (some ⟨q, 0, none⟩) s.ou.length s.ou.length)).other (a := ⟨w.heap.size + 1 + 1, 12, none⟩) (by show w.heap.size + 1 ≠ w.heap.size + 1 + 1; omega) (.int .i64 s.st))
  have HP := Hid.mk' ((p2_.other (a := ⟨w.heap.size + 1 + 1, 11, none⟩) (by show w.heap.size ≠ w.heap.size + 1 + 1; omega) (.slice (some ⟨q, 0, none⟩) s.ou.length s.ou.length)).other (a := ⟨w.heap.size + 1 + 1, 12, none⟩) (by show w.heap.size ≠ w.heap.size + 1 + 1; omega) (.int .i64 s.st))
  have HB := Hid.mk' (RowA.setBelow (g := w.heap.size + 1 + 1) (RowA.setBelow (g := w.heap.size + 1 + 1) bq (by omega) 11 (.slice (some ⟨q, 0, none⟩) s.ou.length s.ou.length)) (by omega) 12 (.int .i64 s.st))
  have UU : UpG (w.heap.size + 1 + 1) V3 ((w4.setCell ⟨w.heap.size + 1 + 1, 11, none⟩ (.slice (some ⟨q, 0, none⟩) s.ou.length s.ou.length)).setCell ⟨w.heap.size + 1 + 1, 12, none⟩ (.int .i64 s.st)) := (((UpG.of_below (G := w.heap.size + 1 + 1) hb).cell 11 (.slice (some ⟨q, 0, none⟩) s.ou.length s.ou.length)).cell 12 (.int .i64 s.st))
  have U0 : UpG (w.heap.size + 1 + 1) w4 ((w4.setCell ⟨w.heap.size + 1 + 1, 11, none⟩ (.slice (some ⟨q, 0, none⟩) s.ou.length s.ou.length)).setCell ⟨w.heap.size + 1 + 1, 12, none⟩ (.int .i64 s.st)) := (((UpG.of_below (G := w.heap.size + 1 + 1) (Below.refl _ w4)).cell 11 (.slice (some ⟨q, 0, none⟩) s.ou.length s.ou.length)).cell 12 (.int .i64 s.st))
  have X1 := Hid.mk' (X1.out.up UU L1.out)
  have X2 := Hid.mk' (X2.out.up UU L2.out)
  have X3 := Hid.mk' (X3.out.up UU L3.out)
  have X4 := Hid.mk' (rowUp hr U0 (by omega))
  have L4 : Hid (w.heap.size + 1 + 1 < q) := Hid.mk' (by omega)
  have st := (p2_.cell 12 (.int .i64 s.st) rfl)
  clear hr hq hb o2 t2 p2_ bq zO KB UU U0 le
  go_wp2_with (first | ((with_reducible refine wpList_load_row ?_ 70 (.tmp 3) ?_ (w.heap.size + 1 + 1) ?_ 70 #[.slice (some ⟨g1, 0, none⟩) s.po.tg.length s.po.tg.length, .slice (some ⟨g2, 0, none⟩) s.po.at_.length s.po.at_.length, .slice (some ⟨g3, 0, none⟩) s.po.sc.length s.po.sc.length, .slice (some ⟨h1, 0, none⟩) s.tb.base.length s.tb.base.length, .slice (some ⟨h2, 0, none⟩) s.tb.more.length s.tb.more.length, .slice (some ⟨h3, 0, none⟩) s.tb.pcs.length s.tb.pcs.length, .slice (some ⟨gd, 0, none⟩) s.me.dt.length s.me.dt.length, .int .i64 s.me.st, .slice (some ⟨gt, 0, none⟩) s.me.tk.length s.me.tk.length, .slice (some ⟨gh, 0, none⟩) s.me.hd.length s.me.hd.length, .slice (some ⟨gc, 0, none⟩) s.me.cs.length s.me.cs.length, .slice (some ⟨q, 0, none⟩) s.ou.length s.ou.length, .int .i64 s.st] (0, 0) _ ?_ Try.underlying70 ?_ ?_ ?_); rfl; rfl; rfl; exact HO.out; rfl; kernel_rfl) | ((with_reducible refine wpList_store_row ?_ 70 (.tmp 2) (.tmp 23) ?_ (w.heap.size + 1) #[.slice (some ⟨g1, 0, none⟩) s.po.tg.length s.po.tg.length, .slice (some ⟨g2, 0, none⟩) s.po.at_.length s.po.at_.length, .slice (some ⟨g3, 0, none⟩) s.po.sc.length s.po.sc.length, .slice (some ⟨h1, 0, none⟩) s.tb.base.length s.tb.base.length, .slice (some ⟨h2, 0, none⟩) s.tb.more.length s.tb.more.length, .slice (some ⟨h3, 0, none⟩) s.tb.pcs.length s.tb.pcs.length, .slice (some ⟨gd, 0, none⟩) s.me.dt.length s.me.dt.length, .int .i64 s.me.st, .slice (some ⟨gt, 0, none⟩) s.me.tk.length s.me.tk.length, .slice (some ⟨gh, 0, none⟩) s.me.hd.length s.me.hd.length, .slice (some ⟨gc, 0, none⟩) s.me.cs.length s.me.cs.length, .slice (some ⟨q, 0, none⟩) s.ou.length s.ou.length, .int .i64 s.st] ?_ ?_ 70 #[.slice none 0 0, .slice none 0 0, .slice none 0 0, .slice none 0 0, .slice none 0 0, .slice none 0 0, .slice none 0 0, .int .i64 0, .slice none 0 0, .slice none 0 0, .slice none 0 0, .slice none 0 0, .int .i64 0] ?_ ?_ ?_ ?_ ?_); rfl; rfl; rfl; rfl; exact HT.out; kernel_rfl; rfl; kernel_rfl))
  refine bodyPost_ret (v := .agg #[.slice (some ⟨g1, 0, none⟩) s.po.tg.length s.po.tg.length, .slice (some ⟨g2, 0, none⟩) s.po.at_.length s.po.at_.length, .slice (some ⟨g3, 0, none⟩) s.po.sc.length s.po.sc.length, .slice (some ⟨h1, 0, none⟩) s.tb.base.length s.tb.base.length, .slice (some ⟨h2, 0, none⟩) s.tb.more.length s.tb.more.length, .slice (some ⟨h3, 0, none⟩) s.tb.pcs.length s.tb.pcs.length, .slice (some ⟨gd, 0, none⟩) s.me.dt.length s.me.dt.length, .int .i64 s.me.st, .slice (some ⟨gt, 0, none⟩) s.me.tk.length s.me.tk.length, .slice (some ⟨gh, 0, none⟩) s.me.hd.length s.me.hd.length, .slice (some ⟨gc, 0, none⟩) s.me.cs.length s.me.cs.length, .slice (some ⟨q, 0, none⟩) s.ou.length s.ou.length, .int .i64 s.st]) ?_ ?_ ?_
  · exact results_cell_row Try.results25 _ _ (w.heap.size + 1) 70 _ (0, 0) _ rfl (HT.out.put _) Try.underlying70 rfl (by kernel_rfl)
  · rfl
  · have UR := (UpG.of_below (G := w.heap.size + 1 + 1) (Below.refl _ ((w4.setCell ⟨w.heap.size + 1 + 1, 11, none⟩ (.slice (some ⟨q, 0, none⟩) s.ou.length s.ou.length)).setCell ⟨w.heap.size + 1 + 1, 12, none⟩ (.int .i64 s.st)))).rowR (g := w.heap.size + 1) (by omega) #[.slice (some ⟨g1, 0, none⟩) s.po.tg.length s.po.tg.length, .slice (some ⟨g2, 0, none⟩) s.po.at_.length s.po.at_.length, .slice (some ⟨g3, 0, none⟩) s.po.sc.length s.po.sc.length, .slice (some ⟨h1, 0, none⟩) s.tb.base.length s.tb.base.length, .slice (some ⟨h2, 0, none⟩) s.tb.more.length s.tb.more.length, .slice (some ⟨h3, 0, none⟩) s.tb.pcs.length s.tb.pcs.length, .slice (some ⟨gd, 0, none⟩) s.me.dt.length s.me.dt.length, .int .i64 s.me.st, .slice (some ⟨gt, 0, none⟩) s.me.tk.length s.me.tk.length, .slice (some ⟨gh, 0, none⟩) s.me.hd.length s.me.hd.length, .slice (some ⟨gc, 0, none⟩) s.me.cs.length s.me.cs.length, .slice (some ⟨q, 0, none⟩) s.ou.length s.ou.length, .int .i64 s.st]
    exact ⟨⟨some ⟨g1, 0, none⟩, some ⟨g2, 0, none⟩, some ⟨g3, 0, none⟩, some ⟨h1, 0, none⟩, some ⟨h2, 0, none⟩, some ⟨h3, 0, none⟩, some ⟨gd, 0, none⟩, some ⟨gt, 0, none⟩, some ⟨gh, 0, none⟩, some ⟨gc, 0, none⟩, some ⟨q, 0, none⟩, s.po.tg.length, s.po.at_.length, s.po.sc.length, s.tb.base.length, s.tb.more.length, s.tb.pcs.length, s.me.dt.length, s.me.tk.length, s.me.hd.length, s.me.cs.length, s.ou.length⟩, rfl, se_made (X1.out.up UR L1.out) (X2.out.up UR L2.out) (X3.out.up UR L3.out) (rowUp X4.out UR L4.out), RowA.putBelow HB.out (by omega) _⟩

end Go.Proofs.Ytbdjppiagjhfmaa
