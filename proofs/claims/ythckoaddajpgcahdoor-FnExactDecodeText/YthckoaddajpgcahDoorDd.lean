/- The walk of the law on DecodeText. -/
import Derived.Test.YthckoaddajpgcahDoorDc
namespace Go.Proofs.YthckoaddajpgcahDoor
open Go.RowKit
set_option linter.unusedVariables false

set_option maxHeartbeats 2000000 in
theorem lawDT_any (s : ByteArray) (w : World) (hm : (s.size : Int) ≤ 9223372036854775807) (hr : Refs w) (he : Errs w) :
    Calls Tryd.prog 6 #[.string s] w fun e w' => e = .returned (.bool true) ∧ Below w.heap.size w w' := by
  by_cases hs : s.size ≤ 1048576
  rotate_left
  · have ci : (1048576 : Int) < (s.size : Int) := by omega
    clear hr he
    go_enter Tryd.func6, Tryd.ntmps6
    go_wp2
    go_ret
    exact ⟨rfl, Below.refl _ _⟩
  have ci : ¬ (1048576 : Int) < (s.size : Int) := by omega
  have K1 : Hid (∀ W : World, Calls Tryd.prog 17 #[.string s] W fun e w' => ∃ v, e = .returned (.agg #[.int .i64 (decC s.data.toList), v]) ∧ OB w' v (decV s.data.toList) ∧ In W.heap.size w'.heap.size v ∧ Below W.heap.size W w') := fun W => specDec_any s W hs
  have K2 : Hid (∀ W : World, Below w.heap.size w W → Calls Tryd.prog 18 #[.string s] W fun e w' => ∃ v, e = .returned (.agg #[.int .i64 (decC s.data.toList), v]) ∧ OB w' v (decV s.data.toList) ∧ In W.heap.size w'.heap.size v ∧ Below W.heap.size W w') := fun W hb => implDec_any s W hs (hr.below hb) (he.below hb)
  have n3 := decV_len s.data.toList
  generalize decC s.data.toList = c at *
  generalize decV s.data.toList = D at *
  clear hr he
  go_enter Tryd.func6, Tryd.ntmps6
  go_wp2_with fail
  refine (K1.out _).mono ?_
  rintro e w3 ⟨v3, rfl, o3, i3, hb3⟩
  have N3 := below_new w3 (.cells #[.int .i64 c, v3] 38)
  have B3 := Hid.mk' (hb3.trans (N3.mono hb3.size))
  have W3 : Hid (WantB (w3.alloc (.cells #[.int .i64 c, v3] 38)) w3.heap.size (.int .i64 c) v3 D (w3.alloc (.cells #[.int .i64 c, v3] 38))) :=
    ⟨Below.refl _ _, rowp2 w3 38 _ _, o3.below N3, by simp, i3.mono (Nat.zero_le _) (by simp)⟩
  obtain ⟨sa, sc, rfl, _⟩ := o3.len
  clear K1 hb3 N3 o3 i3
  generalize hwa : w3.alloc (.cells #[.int .i64 c, .slice sa D.length sc] 38) = wa at *
  go_wp2_with fail
  clear hwa
  refine (K2.out _ B3.out).mono ?_
  rintro e w5 ⟨u, rfl, o5, i5, hb5⟩
  have hx5 := hb5.size
  have N5 := below_new w5 (.cells #[.int .i64 c, u] 38)
  have B5 := Hid.mk' ((B3.out.trans (hb5.mono B3.out.size)).trans (N5.mono (by have := B3.out.size; omega)))
  have W5 := Hid.mk' ((W3.out.below hb5).below N5)
  have G5 : Hid (GotB wa.heap.size w5.heap.size w5.heap.size (.int .i64 c) u D (w5.alloc (.cells #[.int .i64 c, u] 38))) := ⟨rowp2 w5 38 _ _, o5.below N5, i5, Nat.le_refl _⟩
  obtain ⟨ua, uc, rfl, _⟩ := o5.len
  have bs := B3.out.size
  clear B3 W3 hb5 o5 i5 N5
  generalize hwc : w5.alloc (.cells #[.int .i64 c, .slice ua D.length uc] 38) = wc at *
  obtain ⟨z0, z1, z2⟩ := cells2 W5.out.box
  obtain ⟨q0, q1, q2⟩ := cells2 G5.out.box
  go_wp2_with fail
  clear hwc
  refine (eqBR_any _ _ _ D wc G5.out.own.len W5.out.own.len n3).mono ?_
  rintro e w6 ⟨rfl, hb6⟩
  have B6 := Hid.mk' (B5.out.trans (hb6.mono B5.out.size))
  have W6 := Hid.mk' (W5.out.below hb6)
  have G6 := Hid.mk' (G5.out.below hb6)
  clear B5 W5 G5 hb6 z0 z1 z2 q0 q1 q2
  obtain ⟨q0, q1, q2⟩ := cells2 G6.out.box
  go_wp2_with fail
  refine (markBR_any _ _ D w6 G6.out.own n3).mono ?_
  rintro e w7 ⟨rfl, o7, wm, hbm, htm⟩
  have hkm := htm.kept G6.out.inn
  have B7 := Hid.mk' ((B6.out.trans (hbm.mono B6.out.size)).trans (hkm.below bs (by have := B6.out.size; have := hbm.size; omega)))
  have W7 := Hid.mk' ((W6.out.below hbm).kept hkm (Nat.le_refl _))
  have G7 : Hid (GotB wa.heap.size w5.heap.size w5.heap.size _ _ (mb 1 D.length) w7) := ⟨rowK (rowB G6.out.box hbm) hkm (.inr (Nat.le_refl _)), o7, G6.out.inn, Nat.le_refl _⟩
  clear B6 W6 G6 hbm htm hkm o7 q0 q1 q2
  obtain ⟨q0, q1, q2⟩ := cells2 G7.out.box
  go_wp2_with fail
  have L7 : Hid (∃ a d, Value.slice ua D.length uc = .slice a D.length d ∧ BAt w7 a (mb 1 D.length)) := by
    obtain ⟨a, d, e, hb⟩ := G7.out.own.len
    rw [mb_len] at e
    exact ⟨a, d, e, hb⟩
  refine (heldBR_any _ _ D.length w7 L7.out n3).mono ?_
  rintro e w8 ⟨rfl, hb8⟩
  have B8 := Hid.mk' (B7.out.trans (hb8.mono B7.out.size))
  have W8 := Hid.mk' (W7.out.below hb8)
  have G8 := Hid.mk' (G7.out.below hb8)
  clear B7 W7 G7 L7 hb8 q0 q1 q2
  go_wp2_with fail
  refine (K2.out _ B8.out).mono ?_
  rintro e w9 ⟨h, rfl, o9, i9, hb9⟩
  have N9 := below_new w9 (.cells #[.int .i64 c, h] 38)
  have B9 := Hid.mk' ((B8.out.trans (hb9.mono B8.out.size)).trans (N9.mono (by have := B8.out.size; have := hb9.size; omega)))
  have W9 := Hid.mk' ((W8.out.below hb9).below N9)
  have G9 := Hid.mk' ((G8.out.below hb9).below N9)
  have O9 := Hid.mk' (o9.below N9)
  have Y9 := Hid.mk' (rowp2 w9 38 (.int .i64 c) h)
  obtain ⟨ha, hc, rfl, _⟩ := o9.len
  clear K2 B8 W8 G8 hb9 o9 i9 N9
  generalize hwd : w9.alloc (.cells #[.int .i64 c, .slice ha D.length hc] 38) = wd at *
  obtain ⟨z0, z1, z2⟩ := cells2 W9.out.box
  obtain ⟨q0, q1, q2⟩ := cells2 Y9.out
  go_wp2_with fail
  clear hwd
  refine (eqBR_any _ _ _ D wd O9.out.len W9.out.own.len n3).mono ?_
  rintro e w10 ⟨rfl, hb10⟩
  have B10 := Hid.mk' (B9.out.trans (hb10.mono B9.out.size))
  have G10 := Hid.mk' (G9.out.below hb10)
  clear B9 W9 G9 O9 Y9 hb10 z0 z1 z2 q0 q1 q2
  obtain ⟨q0, q1, q2⟩ := cells2 G10.out.box
  go_wp2_with fail
  have L10 : Hid (∃ a d, Value.slice ua D.length uc = .slice a D.length d ∧ BAt w10 a (mb 1 D.length)) := by
    obtain ⟨a, d, e, hb⟩ := G10.out.own.len
    rw [mb_len] at e
    exact ⟨a, d, e, hb⟩
  refine (heldBR_any _ _ D.length w10 L10.out n3).mono ?_
  rintro e w11 ⟨rfl, hb11⟩
  have B11 := Hid.mk' (B10.out.trans (hb11.mono B10.out.size))
  clear B10 G10 L10 hb11 q0 q1 q2
  go_wp2
  go_ret
  exact ⟨rfl, B11.out⟩

end Go.Proofs.YthckoaddajpgcahDoor
