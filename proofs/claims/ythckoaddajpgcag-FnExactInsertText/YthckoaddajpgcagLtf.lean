/- The walk of the law on TableFault: it answers true at every table, and turns nothing that was there. -/
import Derived.Test.YthckoaddajpgcagWe
namespace Go.Proofs.Ythckoaddajpgcag
open Go.RowKit
set_option linter.unusedVariables false

/-- What a law holds on to while it calls: nothing old has turned; its argument lies in its box; the argument reads as the table. -/
def Hold (w : World) (ty : TypeId) (x y z : Value) (t : TB) (wi : World) : Prop := Below w.heap.size w wi ∧ wi.rowIs w.heap.size ty 3 (r3 x y z) ∧ TAt wi (.agg #[x, y, z]) t

theorem Hold.start {w : World} {ty : TypeId} {x y z : Value} {t : TB} (ht : TAt w (.agg #[x, y, z]) t) : Hold w ty x y z t (w.alloc (.cells #[x, y, z] ty)) :=
  have B0 := (Below.refl w.heap.size w).alloc (Nat.le_refl _) (.cells #[x, y, z] ty)
  ⟨B0, row3 w ty x y z, ht.below B0⟩

theorem Hold.below {w wi wj : World} {ty : TypeId} {x y z : Value} {t : TB} (h : Hold w ty x y z t wi) (hb : Below wi.heap.size wi wj) : Hold w ty x y z t wj :=
  ⟨h.1.trans (hb.mono h.1.size), h.2.1.of_block (hb.block _ h.2.1.lt), h.2.2.below hb⟩

theorem Hold.cells {w wi : World} {ty : TypeId} {x y z : Value} {t : TB} (h : Hold w ty x y z t wi) : wi.cell? ⟨w.heap.size, 0, none⟩ = some x ∧ wi.cell? ⟨w.heap.size, 1, none⟩ = some y ∧ wi.cell? ⟨w.heap.size, 2, none⟩ = some z ∧ w.heap.size < wi.heap.size :=
  ⟨h.2.1.cell (by omega), h.2.1.cell (by omega), h.2.1.cell (by omega), h.2.1.lt⟩

theorem cells3 {w : World} {g : Nat} {ty : TypeId} {x y z : Value} (h : w.rowIs g ty 3 (r3 x y z)) : w.cell? ⟨g, 0, none⟩ = some x ∧ w.cell? ⟨g, 1, none⟩ = some y ∧ w.cell? ⟨g, 2, none⟩ = some z ∧ g < w.heap.size :=
  ⟨h.cell (by omega), h.cell (by omega), h.cell (by omega), h.lt⟩

set_option maxHeartbeats 800000 in
theorem lawTableFault_any (v : Value) (t : TB) (w : World) (ht : TAt w v t) (hwf : WFT t) (k1 : (t.base.length : Int) ≤ 9223372036854775807) (k2 : (t.more.length : Int) ≤ 9223372036854775807) (k3 : (t.pcs.length : Int) ≤ 9223372036854775807) :
    Calls Try.prog 3 #[v] w fun e w' => e = .returned (.bool true) ∧ Below w.heap.size w w' := by
  obtain ⟨a1, a2, a3, c1, c2, c3, rfl, h1, h2, h3⟩ := id ht
  have K := szTable_any a1 a2 a3 _ _ _ c1 c2 c3 (w.alloc (.cells #[.slice a1 t.base.length c1, .slice a2 t.more.length c2, .slice a3 t.pcs.length c3] 25)) k1 k2 k3
  have H0 := Hold.start (ty := 25) ht
  clear h1 h2 h3 ht k1 k2 k3
  by_cases hl : (t.base.length : Int) + t.more.length + t.pcs.length ≤ 1048576
  · rw [if_pos hl] at K
    have KK := Hid.mk' K
    have HH := Hid.mk' H0
    clear K H0
    go_enter Try.func3, Try.ntmps3
    go_wp2_with fail
    refine KK.out.mono ?_
    rintro e w1 ⟨rfl, hb1⟩
    have H1 := Hid.mk' (HH.out.below hb1)
    obtain ⟨x0, x1, x2, x3⟩ := H1.out.cells
    clear KK HH hb1
    go_wp2_with fail
    refine (toTable_any _ t _ H1.out.2.2 hl).mono ?_
    rintro e w2 ⟨v2, rfl, tr2, hb2⟩
    have H2 := Hid.mk' (H1.out.below hb2)
    clear H1 hb2 x0 x1 x2 x3
    go_wp2_with fail
    refine (specFault_any _ t _ tr2.at hl).mono ?_
    rintro e w3 ⟨rfl, hb3⟩
    have H3 := Hid.mk' (H2.out.below hb3)
    obtain ⟨x0, x1, x2, x3⟩ := H3.out.cells
    clear H2 hb3 tr2
    go_wp2_with fail
    refine (toTable_any _ t _ H3.out.2.2 hl).mono ?_
    rintro e w4 ⟨v4, rfl, tr4, hb4⟩
    have H4 := H3.out.below hb4
    obtain ⟨b1, b2, b3, rfl, g1, g2, g3, r1, r2, r3⟩ := id tr4
    have B5 := (Below.refl w4.heap.size w4).alloc (Nat.le_refl _) (.cells #[.slice (some ⟨b1, 0, none⟩) t.base.length t.base.length, .slice (some ⟨b2, 0, none⟩) t.more.length t.more.length, .slice (some ⟨b3, 0, none⟩) t.pcs.length t.pcs.length] 30)
    have H5 := Hid.mk' (H4.below B5)
    have tr5 := Hid.mk' (tr4.below B5)
    have R5 := Hid.mk' (row3 w4 30 (.slice (some ⟨b1, 0, none⟩) t.base.length t.base.length) (.slice (some ⟨b2, 0, none⟩) t.more.length t.more.length) (.slice (some ⟨b3, 0, none⟩) t.pcs.length t.pcs.length))
    clear H3 H4 hb4 tr4 r1 r2 r3 x0 x1 x2 x3 g1 g2 g3 B5
    go_wp2_with fail
    refine (tableFault_any _ t _ tr5.out.at hwf hl).mono ?_
    rintro e w6 ⟨rfl, hb6⟩
    have H6 := Hid.mk' (H5.out.below hb6)
    have tr6 := Hid.mk' (tr5.out.below hb6)
    have R6 := Hid.mk' (R5.out.of_block (hb6.block _ R5.out.lt))
    obtain ⟨x0, x1, x2, x3⟩ := H6.out.cells
    obtain ⟨y0, y1, y2, y3⟩ := cells3 R6.out
    clear H5 tr5 R5 hb6
    go_wp2
    go_region_held3 (fun w' => w'.cell? ⟨w.heap.size, 0, none⟩ = some (.slice a1 t.base.length c1) ∧ w'.cell? ⟨w.heap.size, 1, none⟩ = some (.slice a2 t.more.length c2) ∧ w'.cell? ⟨w.heap.size, 2, none⟩ = some (.slice a3 t.pcs.length c3) ∧ w'.cell? ⟨w4.heap.size, 0, none⟩ = some (.slice (some ⟨b1, 0, none⟩) t.base.length t.base.length) ∧ w'.cell? ⟨w4.heap.size, 1, none⟩ = some (.slice (some ⟨b2, 0, none⟩) t.more.length t.more.length) ∧ w'.cell? ⟨w4.heap.size, 2, none⟩ = some (.slice (some ⟨b3, 0, none⟩) t.pcs.length t.pcs.length)) (simp [*])
      (first | (go_at_call 11; refine (toTable_any _ t _ (H6.out.2.2.below (Below.refl _ _).drew) hl).mono ?_; rintro e w7 ⟨v7, rfl, tr7, hb7⟩; replace hb7 := undrew hb7; obtain ⟨hx1, hx2⟩ := bcell hb7; have z1 := hb7.size; have z2 : w.heap.size < w7.heap.size := (by omega); have z3 : w4.heap.size < w7.heap.size := (by omega)) | (go_at_call 13; refine (eqTable_any _ _ t _ (tr6.out.at.below hb7) tr7.at hl).mono ?_; rintro e w8 ⟨rfl, hb8⟩; obtain ⟨hx3, hx4⟩ := bcell hb8))
    have H8 := Hid.mk' ((H6.out.below hb7).below hb8)
    clear hx1 hx2 hx3 hx4 hb7 hb8 tr7 x0 x1 x2 x3 y0 y1 y2 y3
    go_wp2
    go_ret
    exact ⟨rfl, H8.out.1⟩
  · rw [if_neg hl] at K
    have KK := Hid.mk' K
    have HH := Hid.mk' H0
    clear K H0
    go_enter Try.func3, Try.ntmps3
    go_wp2_with fail
    refine KK.out.mono ?_
    rintro e w1 ⟨rfl, hb1⟩
    have H1 := Hid.mk' (HH.out.below hb1)
    clear KK HH hb1
    go_wp2
    go_ret
    exact ⟨rfl, H1.out.1⟩

end Go.Proofs.Ythckoaddajpgcag
