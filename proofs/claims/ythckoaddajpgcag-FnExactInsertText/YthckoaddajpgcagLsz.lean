/- The walk of the law on SizeOf. -/
import Derived.Test.YthckoaddajpgcagWf
import Derived.Test.YthckoaddajpgcagOwn
namespace Go.Proofs.Ythckoaddajpgcag
open Go.RowKit
set_option linter.unusedVariables false

/-- The i-th of two cells. -/
def p2 (x y : Value) (i : Nat) : Value := if i = 0 then x else y

theorem rowp2 (w : World) (t : TypeId) (x y : Value) : (w.alloc (.cells #[x, y] t)).rowIs w.heap.size t 2 (p2 x y) :=
  World.rowIs_alloc w #[x, y] t _ (fun i hi => by
    have h : i = 0 ∨ i = 1 := by simp at hi; omega
    rcases h with rfl | rfl <;> simp [p2])

theorem cells2 {w : World} {g : Nat} {ty : TypeId} {x y : Value} (h : w.rowIs g ty 2 (p2 x y)) : w.cell? ⟨g, 0, none⟩ = some x ∧ w.cell? ⟨g, 1, none⟩ = some y ∧ g < w.heap.size :=
  ⟨h.cell (by omega), h.cell (by omega), h.lt⟩

set_option maxHeartbeats 800000 in
theorem lawSizeOf_any (v : Value) (t : TB) (w : World) (ht : TAt w v t) (hwf : WFT t) (k1 : (t.base.length : Int) ≤ 9223372036854775807) (k2 : (t.more.length : Int) ≤ 9223372036854775807) (k3 : (t.pcs.length : Int) ≤ 9223372036854775807) :
    Calls Try.prog 6 #[v] w fun e w' => e = .returned (.bool true) ∧ Below w.heap.size w w' := by
  obtain ⟨a1, a2, a3, c1, c2, c3, rfl, h1, h2, h3⟩ := id ht
  have K := szTable_any a1 a2 a3 _ _ _ c1 c2 c3 (w.alloc (.cells #[.slice a1 t.base.length c1, .slice a2 t.more.length c2, .slice a3 t.pcs.length c3] 25)) k1 k2 k3
  have H0 := Hold.start (ty := 25) ht
  clear h1 h2 h3 ht k1 k2 k3
  by_cases hl : (t.base.length : Int) + t.more.length + t.pcs.length ≤ 1048576
  · rw [if_pos hl] at K
    have KK := Hid.mk' K
    have HH := Hid.mk' H0
    clear K H0
    go_enter Try.func6, Try.ntmps6
    go_wp2_with fail
    refine KK.out.mono ?_
    rintro e w1 ⟨rfl, hb1⟩
    have H1 := Hid.mk' (HH.out.below hb1)
    obtain ⟨x0, x1, x2, x3⟩ := H1.out.cells
    clear KK HH hb1
    go_wp2_with fail
    refine (toTable_any _ t _ H1.out.2.2 hl).mono ?_
    rintro e w2 ⟨v2, rfl, tr2, hb2⟩
    have H2 := Hid.mk' (H1.out.below hb2)
    clear H1 hb2 x0 x1 x2 x3
    go_wp2_with fail
    refine (specSize_any _ t _ tr2.at hl).mono ?_
    rintro e w3 ⟨rfl, hb3⟩
    have N3 := below_new w3 (.cells #[.int .i64 (fault t), .int .i64 (sizeVal t)] 50)
    have H3 := Hid.mk' ((H2.out.below hb3).below N3)
    have Q3 := Hid.mk' (rowp2 w3 50 (.int .i64 (fault t)) (.int .i64 (sizeVal t)))
    obtain ⟨x0, x1, x2, x3⟩ := H3.out.cells
    clear H2 hb3 tr2 N3
    go_wp2_with fail
    refine (toTable_any _ t _ H3.out.2.2 hl).mono ?_
    rintro e w4 ⟨v4, rfl, tr4, hb4⟩
    obtain ⟨b1, b2, b3, rfl, g1, g2, g3, r1, r2, r3⟩ := id tr4
    have N4 := below_new w4 (.cells #[.slice (some ⟨b1, 0, none⟩) t.base.length t.base.length, .slice (some ⟨b2, 0, none⟩) t.more.length t.more.length, .slice (some ⟨b3, 0, none⟩) t.pcs.length t.pcs.length] 30)
    have H4 := Hid.mk' ((H3.out.below hb4).below N4)
    have Q4 := Hid.mk' (rowB (rowB Q3.out hb4) N4)
    have tr5 := Hid.mk' (tr4.below N4)
    have R5 := Hid.mk' (row3 w4 30 (.slice (some ⟨b1, 0, none⟩) t.base.length t.base.length) (.slice (some ⟨b2, 0, none⟩) t.more.length t.more.length) (.slice (some ⟨b3, 0, none⟩) t.pcs.length t.pcs.length))
    clear H3 hb4 tr4 r1 r2 r3 x0 x1 x2 x3 g1 g2 g3 N4 Q3
    go_wp2_with fail
    refine (implSize_any _ t _ tr5.out.at hwf hl).mono ?_
    rintro e w5 ⟨rfl, hb5⟩
    have N5 := below_new w5 (.cells #[.int .i64 (fault t), .int .i64 (sizeVal t)] 50)
    have H5 := Hid.mk' ((H4.out.below hb5).below N5)
    have Q5 := Hid.mk' (rowB (rowB Q4.out hb5) N5)
    have tr6 := Hid.mk' ((tr5.out.below hb5).below N5)
    have R6 := Hid.mk' (rowB (rowB R5.out hb5) N5)
    obtain ⟨y0, y1, y2⟩ := cells2 Q5.out
    clear H4 Q4 tr5 R5 hb5 N5
    go_wp2_with fail
    refine (eqIntResult_any _ _ _).mono ?_
    rintro e w6 ⟨rfl, hb6⟩
    have H6 := Hid.mk' (H5.out.below hb6)
    have tr7 := Hid.mk' (tr6.out.below hb6)
    have R7 := Hid.mk' (rowB R6.out hb6)
    obtain ⟨x0, x1, x2, x3⟩ := H6.out.cells
    obtain ⟨z0, z1, z2, z3⟩ := cells3 R7.out
    clear H5 Q5 tr6 R6 y0 y1 y2 hb6
    go_wp2
    go_region_held3 (fun w' => w'.cell? ⟨w.heap.size, 0, none⟩ = some (.slice a1 t.base.length c1) ∧ w'.cell? ⟨w.heap.size, 1, none⟩ = some (.slice a2 t.more.length c2) ∧ w'.cell? ⟨w.heap.size, 2, none⟩ = some (.slice a3 t.pcs.length c3) ∧ w'.cell? ⟨w4.heap.size, 0, none⟩ = some (.slice (some ⟨b1, 0, none⟩) t.base.length t.base.length) ∧ w'.cell? ⟨w4.heap.size, 1, none⟩ = some (.slice (some ⟨b2, 0, none⟩) t.more.length t.more.length) ∧ w'.cell? ⟨w4.heap.size, 2, none⟩ = some (.slice (some ⟨b3, 0, none⟩) t.pcs.length t.pcs.length)) (simp [*])
      (first | (go_at_call 11; refine (toTable_any _ t _ (H6.out.2.2.below (Below.refl _ _).drew) hl).mono ?_; rintro e w7 ⟨v7, rfl, ts7, hb7⟩; replace hb7 := undrew hb7; obtain ⟨hx1, hx2⟩ := bcell hb7; have u1 := hb7.size; have u2 : w.heap.size < w7.heap.size := (by omega); have u3 : w4.heap.size < w7.heap.size := (by omega)) | (go_at_call 13; refine (eqTable_any _ _ t _ (tr7.out.at.below hb7) ts7.at hl).mono ?_; rintro e w8 ⟨rfl, hb8⟩; obtain ⟨hx3, hx4⟩ := bcell hb8))
    have H8 := Hid.mk' ((H6.out.below hb7).below hb8)
    clear hx1 hx2 hx3 hx4 hb7 hb8 ts7 x0 x1 x2 x3 z0 z1 z2 z3
    go_wp2
    go_ret
    exact ⟨rfl, H8.out.1⟩
  · rw [if_neg hl] at K
    have KK := Hid.mk' K
    have HH := Hid.mk' H0
    clear K H0
    go_enter Try.func6, Try.ntmps6
    go_wp2_with fail
    refine KK.out.mono ?_
    rintro e w1 ⟨rfl, hb1⟩
    have H1 := Hid.mk' (HH.out.below hb1)
    clear KK HH hb1
    go_wp2
    go_ret
    exact ⟨rfl, H1.out.1⟩

end Go.Proofs.Ythckoaddajpgcag
