/- A session: measured, copied, told to be the same. -/
import Derived.Test.YtbdjppiagjhfmaaSxb
import Derived.Test.YtbdjppiagjhfmaaSya
import Derived.Test.YtbdjppiagjhfmaaSma
import Derived.Test.YtbdjppiagjhfmaaMkc
import Derived.Test.YtbdjppiagjhfmaaWc
namespace Go.Proofs.Ytbdjppiagjhfmaa
open Go.RowKit
set_option linter.unusedVariables false
set_option linter.unusedSimpArgs false

/-- A session: its policy, its table, its memo, what it shows, its status. -/
structure SE where
  po : PO
  tb : TB
  me : ME
  ou : List Int
  st : Int

/-- Where a session's lists lie. -/
structure SX where
  p1 : Option Addr
  p2 : Option Addr
  p3 : Option Addr
  b1 : Option Addr
  b2 : Option Addr
  b3 : Option Addr
  c1 : Option Addr
  c2 : Option Addr
  c3 : Option Addr
  c4 : Option Addr
  d1 : Option Addr
  n1 : Nat
  n2 : Nat
  n3 : Nat
  k1 : Nat
  k2 : Nat
  k3 : Nat
  l1 : Nat
  l2 : Nat
  l3 : Nat
  l4 : Nat
  j1 : Nat

/-- A session's cells. -/
def seV (s : SE) (x : SX) : Array Value := #[.slice x.p1 s.po.tg.length x.n1, .slice x.p2 s.po.at_.length x.n2, .slice x.p3 s.po.sc.length x.n3, .slice x.b1 s.tb.base.length x.k1, .slice x.b2 s.tb.more.length x.k2, .slice x.b3 s.tb.pcs.length x.k3, .slice x.c1 s.me.dt.length x.l1, .int .i64 s.me.st, .slice x.c2 s.me.tk.length x.l2, .slice x.c3 s.me.hd.length x.l3, .slice x.c4 s.me.cs.length x.l4, .slice x.d1 s.ou.length x.j1, .int .i64 s.st]

theorem se_cells {w : World} {g : Nat} {ty : TypeId} {s : SE} {x : SX} (h : RowA w g ty (seV s x)) :
    w.cell? ⟨g, 0, none⟩ = some (.slice x.p1 s.po.tg.length x.n1) ∧ w.cell? ⟨g, 1, none⟩ = some (.slice x.p2 s.po.at_.length x.n2) ∧ w.cell? ⟨g, 2, none⟩ = some (.slice x.p3 s.po.sc.length x.n3) ∧ w.cell? ⟨g, 3, none⟩ = some (.slice x.b1 s.tb.base.length x.k1) ∧ w.cell? ⟨g, 4, none⟩ = some (.slice x.b2 s.tb.more.length x.k2) ∧ w.cell? ⟨g, 5, none⟩ = some (.slice x.b3 s.tb.pcs.length x.k3) ∧ w.cell? ⟨g, 6, none⟩ = some (.slice x.c1 s.me.dt.length x.l1) ∧ w.cell? ⟨g, 8, none⟩ = some (.slice x.c2 s.me.tk.length x.l2) ∧ w.cell? ⟨g, 9, none⟩ = some (.slice x.c3 s.me.hd.length x.l3) ∧ w.cell? ⟨g, 10, none⟩ = some (.slice x.c4 s.me.cs.length x.l4) ∧ w.cell? ⟨g, 11, none⟩ = some (.slice x.d1 s.ou.length x.j1) ∧ w.cell? ⟨g, 7, none⟩ = some (.int .i64 s.me.st) ∧ w.cell? ⟨g, 12, none⟩ = some (.int .i64 s.st) ∧ g < w.heap.size :=
  ⟨h.cell 0 _ rfl, h.cell 1 _ rfl, h.cell 2 _ rfl, h.cell 3 _ rfl, h.cell 4 _ rfl, h.cell 5 _ rfl, h.cell 6 _ rfl, h.cell 8 _ rfl, h.cell 9 _ rfl, h.cell 10 _ rfl, h.cell 11 _ rfl, h.cell 7 _ rfl, h.cell 12 _ rfl, h.lt⟩

/-- A session lies in memory. -/
structure SEAt (w : World) (s : SE) (x : SX) : Prop where
  po : POAt w x.p1 x.p2 x.p3 s.po
  b1 : BAt w x.b1 s.tb.base
  b2 : BAt w x.b2 s.tb.more
  b3 : PAt w x.b3 s.tb.pcs
  me : MAt w x.c1 x.c2 x.c3 x.c4 s.me
  ou : BAt w x.d1 s.ou

theorem SEAt.below {w w' : World} {s : SE} {x : SX} (h : SEAt w s x) (hb : Below w.heap.size w w') : SEAt w' s x :=
  ⟨h.po.below hb, h.b1.below hb, h.b2.below hb, h.b3.below hb, h.me.below hb, h.ou.below hb⟩

theorem SEAt.tb {w : World} {s : SE} {x : SX} (h : SEAt w s x) : TAt w (.agg #[.slice x.b1 s.tb.base.length x.k1, .slice x.b2 s.tb.more.length x.k2, .slice x.b3 s.tb.pcs.length x.k3]) s.tb :=
  ⟨_, _, _, _, _, _, rfl, h.b1, h.b2, h.b3⟩

/-- How much a session holds. -/
def sesz (s : SE) : Nat := psz s.po + (s.tb.base.length + s.tb.more.length + s.tb.pcs.length) + msz s.me + s.ou.length

structure WideSE (s : SE) : Prop where
  po : WideP s.po
  b1 : (s.tb.base.length : Int) ≤ 9223372036854775807
  b2 : (s.tb.more.length : Int) ≤ 9223372036854775807
  b3 : (s.tb.pcs.length : Int) ≤ 9223372036854775807
  me : WideM s.me
  ou : (s.ou.length : Int) ≤ 9223372036854775807

set_option maxHeartbeats 400000 in
theorem szTableZ_any (a1 a2 a3 : Option Addr) (n1 n2 n3 c1 c2 c3 : Nat) (z : Int) (w : World) (z0 : 0 ≤ z) (z1 : z ≤ 1048576) (h1 : (n1 : Int) ≤ 9223372036854775807) (h2 : (n2 : Int) ≤ 9223372036854775807) (h3 : (n3 : Int) ≤ 9223372036854775807) :
    Calls Try.prog 44 #[.agg #[.slice a1 n1 c1, .slice a2 n2 c2, .slice a3 n3 c3], .int .i64 z] w fun e w' => e = .returned (.int .i64 (if (n1 : Int) + n2 + n3 ≤ z then z - n1 - n2 - n3 else -1)) ∧ Below w.heap.size w w' := by
  by_cases g1 : z < n1
  · rw [if_neg (by omega)]
    go_enter Try.func44, Try.ntmps44
    go_wp2_with (go_at_call 28; refine (szByteS_any _ _ _ _ _ (by omega) (by omega) (by omega)).mono ?_; rintro e w' ⟨rfl, rfl⟩)
    go_ret
    exact ⟨rfl, (Below.refl _ _).alloc (Nat.le_refl _) _⟩
  by_cases g2 : z - n1 < n2
  · rw [if_neg (by omega)]
    go_enter Try.func44, Try.ntmps44
    go_wp2_with (go_at_call 28; refine (szByteS_any _ _ _ _ _ (by omega) (by omega) (by omega)).mono ?_; rintro e w' ⟨rfl, rfl⟩)
    go_ret
    exact ⟨rfl, (Below.refl _ _).alloc (Nat.le_refl _) _⟩
  by_cases g3 : z - n1 - n2 < n3
  · rw [if_neg (by omega)]
    go_enter Try.func44, Try.ntmps44
    go_wp2_with (first | (go_at_call 28; refine (szByteS_any _ _ _ _ _ (by omega) (by omega) (by omega)).mono ?_; rintro e w' ⟨rfl, rfl⟩) | (go_at_call 71; refine (szPieceS_any _ _ _ _ _ (by omega) (by omega) (by omega)).mono ?_; rintro e w' ⟨rfl, rfl⟩))
    go_ret
    exact ⟨rfl, (Below.refl _ _).alloc (Nat.le_refl _) _⟩
  · rw [if_pos (by omega)]
    go_enter Try.func44, Try.ntmps44
    go_wp2_with (first | (go_at_call 28; refine (szByteS_any _ _ _ _ _ (by omega) (by omega) (by omega)).mono ?_; rintro e w' ⟨rfl, rfl⟩) | (go_at_call 71; refine (szPieceS_any _ _ _ _ _ (by omega) (by omega) (by omega)).mono ?_; rintro e w' ⟨rfl, rfl⟩))
    go_ret
    exact ⟨rfl, (Below.refl _ _).alloc (Nat.le_refl _) _⟩

set_option maxHeartbeats 3200000 in
theorem szSession_any (s : SE) (x : SX) (z : Int) (w : World) (ha : SEAt w s x) (hw : WideSE s) (z0 : 0 ≤ z) (z1 : z ≤ 1048576) :
    Calls Try.prog 23 #[.agg (seV s x), .int .i64 z] w fun e w' => e = .returned (.int .i64 (if z < (sesz s : Int) then -1 else z - sesz s)) ∧ Below w.heap.size w w' := by
  have SS : Hid (sesz s = psz s.po + (s.tb.base.length + s.tb.more.length + s.tb.pcs.length) + msz s.me + s.ou.length) := Hid.mk' rfl
  have B0 := below_new w (.cells (seV s x) 59)
  have R0 := RowA.new w 59 (seV s x)
  have HR := Hid.mk' R0
  have HB := Hid.mk' B0
  have HA := Hid.mk' ha
  have HW := Hid.mk' hw
  clear B0 R0 ha hw
  generalize sesz s = sz at *
  have K := szPolicyZ_any s.po x.p1 x.p2 x.p3 x.n1 x.n2 x.n3 z (w.alloc (.cells (seV s x) 59)) (HA.out.below HB.out).po HW.out.po z0 z1
  generalize hV : w.alloc (.cells (seV s x) 59) = V at *
  obtain ⟨x0, x1, x2, x3, x4, x5, x6, x8, x9, x10, x11, x7, x12, xl⟩ := se_cells HR.out
  by_cases g1 : z < (psz s.po : Int)
  · rw [if_pos g1] at K
    rw [if_pos (by have := SS.out; omega)]
    have K := Hid.mk' K
    go_enter Try.func23, Try.ntmps23
    go_wp2_with fail
    clear hV
    refine K.out.mono ?_
    rintro e w1 ⟨rfl, hb⟩
    have HB := Hid.mk' (HB.out.trans (hb.mono HB.out.size))
    clear hb K
    go_wp2
    go_ret
    exact ⟨rfl, HB.out⟩
  rw [if_neg g1] at K
  have K := Hid.mk' K
  have gy1 : ¬ (z - (psz s.po : Int) < 0) := by omega
  generalize hR : (if z < (sz : Int) then (-1 : Int) else z - sz) = R at *
  have HIF := Hid.mk' hR
  clear hR
  go_enter Try.func23, Try.ntmps23
  go_wp2_with fail
  clear hV x0 x1 x2 x3 x4 x5 x6 x7 x8 x9 x10 x11 x12 xl
  refine K.out.mono ?_
  rintro e w1 ⟨rfl, hb⟩
  have HR := Hid.mk' (HR.out.below hb)
  have HB := Hid.mk' (HB.out.trans (hb.mono HB.out.size))
  clear hb K
  obtain ⟨x0, x1, x2, x3, x4, x5, x6, x8, x9, x10, x11, x7, x12, xl⟩ := se_cells HR.out
  have K := szTableZ_any x.b1 x.b2 x.b3 s.tb.base.length s.tb.more.length s.tb.pcs.length x.k1 x.k2 x.k3 (z - (psz s.po : Int)) w1 (by omega) (by omega) HW.out.b1 HW.out.b2 HW.out.b3
  by_cases g2 : (s.tb.base.length : Int) + s.tb.more.length + s.tb.pcs.length ≤ z - (psz s.po : Int)
  rotate_left
  · rw [if_neg g2] at K
    have K := Hid.mk' K
    go_wp2_with fail
    refine K.out.mono ?_
    rintro e w2 ⟨rfl, hb⟩
    have HB := Hid.mk' (HB.out.trans (hb.mono HB.out.size))
    clear hb K
    go_wp2
    go_ret
    exact ⟨by rw [← HIF.out, if_pos (by have := SS.out; omega)]; rfl, HB.out⟩
  rw [if_pos g2] at K
  have K := Hid.mk' K
  obtain ⟨y, hy⟩ : ∃ y, z - (psz s.po : Int) - s.tb.base.length - s.tb.more.length - s.tb.pcs.length = y := ⟨_, rfl⟩
  rw [hy] at K
  have y0 : 0 ≤ y := by omega
  have y1 : y ≤ 1048576 := by omega
  have gy2 : ¬ (y < 0) := by omega
  go_wp2_with fail
  clear x0 x1 x2 x3 x4 x5 x6 x7 x8 x9 x10 x11 x12 xl gy1
  refine K.out.mono ?_
  rintro e w2 ⟨rfl, hb⟩
  have HR := Hid.mk' (HR.out.below hb)
  have HB := Hid.mk' (HB.out.trans (hb.mono HB.out.size))
  clear hb K
  obtain ⟨x0, x1, x2, x3, x4, x5, x6, x8, x9, x10, x11, x7, x12, xl⟩ := se_cells HR.out
  have K := szMemo_any s.me x.c1 x.c2 x.c3 x.c4 x.l1 x.l2 x.l3 x.l4 y w2 (HA.out.below HB.out).me HW.out.me y0 y1
  by_cases g3 : y < (msz s.me : Int)
  · rw [if_pos g3] at K
    have K := Hid.mk' K
    go_wp2_with fail
    refine K.out.mono ?_
    rintro e w3 ⟨rfl, hb⟩
    have HB := Hid.mk' (HB.out.trans (hb.mono HB.out.size))
    clear hb K
    go_wp2
    go_ret
    exact ⟨by rw [← HIF.out, if_pos (by have := SS.out; omega)]; rfl, HB.out⟩
  rw [if_neg g3] at K
  have K := Hid.mk' K
  have gy3 : ¬ (y - (msz s.me : Int) < 0) := by omega
  go_wp2_with fail
  clear x0 x1 x2 x3 x4 x5 x6 x7 x8 x9 x10 x11 x12 xl gy2
  refine K.out.mono ?_
  rintro e w3 ⟨rfl, hb⟩
  have HR := Hid.mk' (HR.out.below hb)
  have HB := Hid.mk' (HB.out.trans (hb.mono HB.out.size))
  clear hb K
  obtain ⟨x0, x1, x2, x3, x4, x5, x6, x8, x9, x10, x11, x7, x12, xl⟩ := se_cells HR.out
  have wo := HW.out.ou
  by_cases g4 : y - (msz s.me : Int) < (s.ou.length : Int)
  · go_wp2_with (go_at_call 28; refine (szByteS_any _ _ _ _ _ (by omega) (by omega) (by omega)).mono ?_; rintro e w' ⟨rfl, rfl⟩)
    go_ret
    exact ⟨by rw [← HIF.out, if_pos (by have := SS.out; omega)]; rfl, HB.out⟩
  · have gy4 : ¬ (y - (msz s.me : Int) - (s.ou.length : Int) < 0) := by omega
    go_wp2_with (go_at_call 28; refine (szByteS_any _ _ _ _ _ (by omega) (by omega) (by omega)).mono ?_; rintro e w' ⟨rfl, rfl⟩)
    go_ret
    exact ⟨by rw [← HIF.out, if_neg (by have := SS.out; omega)]; exact congrArg (fun q => Ending.returned (Value.int .i64 q)) (by have := SS.out; omega), HB.out⟩

end Go.Proofs.Ytbdjppiagjhfmaa
