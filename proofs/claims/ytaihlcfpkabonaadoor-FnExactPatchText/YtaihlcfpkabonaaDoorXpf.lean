/- PatchesFault: the program; the law. -/
import Derived.Test.YtaihlcfpkabonaaDoorXpe
namespace Go.Proofs.YtaihlcfpkabonaaDoor
open Go.RowKit
set_option linter.unusedVariables false
set_option linter.unusedSimpArgs false

set_option maxHeartbeats 1600000 in
theorem implPF_any (a : Option Addr) (c : Nat) (l : List XK) (s : Int) (w : World) (ha : XsAt w a l) (hw : WideX l) :
    Calls Tryd.prog 14 #[.slice a l.length c, .int .i64 s] w fun e w' => e = .returned (.int .i64 (patF l s)) ∧ Below w.heap.size w w' := by
  by_cases hs : s < 0 ∨ 2000 < s
  · have E : Hid (patF l s = 3) := Hid.mk' (by unfold patF; rw [if_pos hs])
    clear ha hw
    by_cases hs1 : s < 0
    · clear hs
      go_enter Tryd.func14, Tryd.ntmps14
      go_wp2
      go_ret
      exact ⟨by rw [E.out]; rfl, Below.refl _ _⟩
    · have hs2 : 2000 < s := by omega
      clear hs
      go_enter Tryd.func14, Tryd.ntmps14
      go_wp2
      go_ret
      exact ⟨by rw [E.out]; rfl, Below.refl _ _⟩
  have hs1 : ¬ s < 0 := by omega
  have hs2 : ¬ 2000 < s := by omega
  by_cases h20 : 20 < (l.length : Int)
  · have E : Hid (patF l s = 2) := Hid.mk' (by unfold patF; rw [if_neg hs, if_pos (by omega)])
    clear ha hw hs
    go_enter Tryd.func14, Tryd.ntmps14
    go_wp2
    go_ret
    exact ⟨by rw [E.out]; rfl, Below.refl _ _⟩
  have E : Hid (patF l s = pallX l s 0) := Hid.mk' (by unfold patF; rw [if_neg hs, if_neg (by omega)])
  have HA := Hid.mk' ha
  have HW := Hid.mk' hw
  clear ha hw hs
  generalize hA : patF l s = A at *
  go_enter Tryd.func14, Tryd.ntmps14
  go_wp2
  go_loopw [5, 7, 19] (fun x _ i wr => ∃ (k : Nat) (f : Int), k ≤ l.length ∧ i = .int .i64 k ∧ x = .int .i64 f ∧ pallX (l.drop k) s f = A ∧ Below w.heap.size w wr) (fun _ _ i _ => l.length - (intOf i).toNat)
  case atStart => exact ⟨0, 0, Nat.zero_le _, rfl, rfl, by rw [E.out]; simp, Below.refl _ _⟩
  case round =>
    obtain ⟨k, f, hk, rfl, rfl, hz, hbl⟩ := hrel
    have HB := Hid.mk' hbl
    clear hbl E
    by_cases hlt : k < l.length
    · have ci : (k : Int) < (l.length : Int) := by omega
      rcases HA.out.below HB.out with ha | ⟨b, o, rfl, hbs, hc⟩
      · exact absurd hlt (by rw [ha]; exact Nat.not_lt_zero _)
      obtain ⟨q1, q3, p, d, q2, _⟩ := hc k hlt
      obtain ⟨_, x1, x2, y1, y2⟩ := HW.out k hlt
      have ST := pall_step hlt hz
      unfold pone at ST
      have NB := below_new wr (.cells #[.int .i64 (xkK l k).pl, .int .i64 (xkK l k).ct, .slice p (xkK l k).hd.length d] 38)
      have RP := Hid.mk' (row3 wr 38 (.int .i64 (xkK l k).pl) (.int .i64 (xkK l k).ct) (.slice p (xkK l k).hd.length d))
      have KT := tooMuch_any (xkK l k).pl (xkK l k).ct p (xkK l k).hd.length d (wr.alloc (.cells #[.int .i64 (xkK l k).pl, .int .i64 (xkK l k).ct, .slice p (xkK l k).hd.length d] 38))
      have HB := Hid.mk' (HB.out.trans (NB.mono HB.out.size))
      clear hc hz NB
      generalize hn2 : (xkK l k).hd.length = n at *
      generalize hn1 : (xkK l k).pl = pl at *
      generalize hn3 : (xkK l k).ct = ct at *
      by_cases g : 240 < n
      · have EA : Hid (A = 2) := Hid.mk' (by rw [if_pos g] at ST; omega)
        rw [show decide (240 < (n : Int)) = true from by simp; omega] at KT
        have KT := Hid.mk' KT
        clear g ST
        generalize hV : wr.alloc (.cells #[.int .i64 pl, .int .i64 ct, .slice p n d] 38) = V at *
        obtain ⟨p0, p1, p2_, p3⟩ := cells3 RP.out
        go_wp2_with fail
        clear hV p0 p1 p2_ p3
        refine KT.out.mono ?_
        rintro e w1 ⟨rfl, hb1⟩
        have HB := Hid.mk' (HB.out.trans (hb1.mono HB.out.size))
        have RP := Hid.mk' (rowB RP.out hb1)
        clear hb1 KT
        go_wp2
        go_ret
        exact ⟨by rw [EA.out]; rfl, HB.out⟩
      rw [if_neg g] at ST
      rw [show decide (240 < (n : Int)) = false from by simp; omega] at KT
      have KT := Hid.mk' KT
      have ST := Hid.mk' ST
      clear g
      by_cases h1 : 0 ≤ pl ∧ 0 ≤ ct ∧ ct ≤ s - pl
      · have wr2 : IntKind.i64.wrap (pl + ct) = pl + ct := by rw [IntKind.wrap_i64]; omega
        have ST := ST.out
        rw [if_neg (by omega)] at ST
        have H1 := Hid.mk' h1
        have ST := Hid.mk' ST
        clear h1
        generalize hV : wr.alloc (.cells #[.int .i64 pl, .int .i64 ct, .slice p n d] 38) = V at *
        obtain ⟨p0, p1, p2_, p3⟩ := cells3 RP.out
        go_wp2_with fail
        clear hV p0 p1 p2_ p3
        refine KT.out.mono ?_
        rintro e w1 ⟨rfl, hb1⟩
        have HB := Hid.mk' (HB.out.trans (hb1.mono HB.out.size))
        have RP := Hid.mk' (rowB RP.out hb1)
        clear hb1 KT
        have KF := fits_any pl ct s p n d w1 (by omega) (by omega) x1 x2
        rw [show decide (0 ≤ pl ∧ 0 ≤ ct ∧ ct ≤ s - pl) = true from by have := H1.out; simp; omega] at KF
        have KF := Hid.mk' KF
        obtain ⟨p0, p1, p2_, p3⟩ := cells3 RP.out
        go_wp2_with fail
        clear p0 p1 p2_ p3
        refine KF.out.mono ?_
        rintro e w2 ⟨rfl, hb1⟩
        have HB := Hid.mk' (HB.out.trans (hb1.mono HB.out.size))
        have RP := Hid.mk' (rowB RP.out hb1)
        clear hb1 KF
        obtain ⟨p0, p1, p2_, p3⟩ := cells3 RP.out
        by_cases h3 : pl < f
        · have EA : Hid (A = 1) := Hid.mk' (by have ST := ST.out; rw [if_pos h3] at ST; omega)
          go_wp2
          go_ret
          exact ⟨by rw [EA.out]; rfl, HB.out⟩
        · have EA : Hid (pallX (l.drop (k + 1)) s (pl + ct) = A) := Hid.mk' (by have ST := ST.out; rw [if_neg h3] at ST; omega)
          go_wp2
          go_roundw
          case rel => exact ⟨k + 1, pl + ct, by omega, by go_num, rfl, EA.out, HB.out⟩
          case measure => simp [intOf]; omega
      · have EA : Hid (A = 3) := Hid.mk' (by have ST := ST.out; rw [if_pos h1] at ST; omega)
        have H1 := Hid.mk' h1
        clear h1
        generalize hV : wr.alloc (.cells #[.int .i64 pl, .int .i64 ct, .slice p n d] 38) = V at *
        obtain ⟨p0, p1, p2_, p3⟩ := cells3 RP.out
        go_wp2_with fail
        clear hV p0 p1 p2_ p3
        refine KT.out.mono ?_
        rintro e w1 ⟨rfl, hb1⟩
        have HB := Hid.mk' (HB.out.trans (hb1.mono HB.out.size))
        have RP := Hid.mk' (rowB RP.out hb1)
        clear hb1 KT
        have KF := fits_any pl ct s p n d w1 (by omega) (by omega) x1 x2
        rw [show decide (0 ≤ pl ∧ 0 ≤ ct ∧ ct ≤ s - pl) = false from decide_eq_false H1.out] at KF
        have KF := Hid.mk' KF
        obtain ⟨p0, p1, p2_, p3⟩ := cells3 RP.out
        go_wp2_with fail
        clear p0 p1 p2_ p3
        refine KF.out.mono ?_
        rintro e w2 ⟨rfl, hb1⟩
        have HB := Hid.mk' (HB.out.trans (hb1.mono HB.out.size))
        clear hb1 KF
        go_wp2
        go_ret
        exact ⟨by rw [EA.out]; rfl, HB.out⟩
    · have ci : ¬ (k : Int) < (l.length : Int) := by omega
      have e : k = l.length := by omega
      subst e
      have EA := Hid.mk' (pall_end hz)
      clear hz
      go_wp2
      go_ret
      exact ⟨by rw [EA.out]; rfl, HB.out⟩

end Go.Proofs.YtaihlcfpkabonaaDoor
