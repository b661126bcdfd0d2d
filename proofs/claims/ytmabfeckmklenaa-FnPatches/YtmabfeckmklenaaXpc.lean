/- PatchSize: the model, the program. -/
import Derived.Test.YtmabfeckmklenaaXpb
import Derived.Test.YtmabfeckmklenaaLsz
namespace Go.Proofs.Ytmabfeckmklenaa
open Go.RowKit
set_option linter.unusedVariables false
set_option linter.unusedSimpArgs false

set_option maxHeartbeats 1600000 in
theorem specPS_any (a : Option Addr) (c : Nat) (l : List XK) (w : World) (ha : XsAt w a l) (hl : (l.length : Int) + xsz l ≤ 1048576) :
    Calls Try.prog 18 #[.slice a l.length c] w fun e w' => e = .returned (.agg #[.int .i64 (psC l), .int .i64 (psV l)]) ∧ Below w.heap.size w w' := by
  have N0 := below_new w (.cells #[.int .i64 0, .int .i64 0] 44)
  have RB := Hid.mk' (rowp2 w 44 (.int .i64 0) (.int .i64 0))
  have HN := Hid.mk' N0
  have HA := Hid.mk' (ha.below N0)
  clear ha N0
  generalize hW : w.alloc (.cells #[.int .i64 0, .int .i64 0] 44) = W at *
  obtain ⟨b0, b1, b2⟩ := cells2 RB.out
  have f0 := RB.out.frozen 0
  have f1 := RB.out.frozen 1
  by_cases h20 : 20 < (l.length : Int)
  · have E := Hid.mk' (ps_many (l := l) (by omega))
    go_enter Try.func18, Try.ntmps18
    go_wp2_with fail
    clear hW
    go_wp2
    refine bodyPost_ret (v := .agg #[.int .i64 2, .int .i64 0]) (by simp [results, Try.results18, go_sem, *]) rfl ?_
    exact ⟨by rw [E.out.1, E.out.2], (HN.out.setCell (p := ⟨w.heap.size, 0, none⟩) (Nat.le_refl _) _).setCell (p := ⟨w.heap.size, 1, none⟩) (Nat.le_refl _) _⟩
  go_enter Try.func18, Try.ntmps18
  go_wp2_with fail
  clear hW
  go_loopw [3, 4] (fun x i wr => ∃ k : Nat, k ≤ l.length ∧ i = .int .i64 k ∧ x = .int .i64 (xsz (l.take k) : Int) ∧ (∀ j, j < k → (xkK l j).hd.length ≤ 240) ∧ wr = W) (fun _ i _ => l.length - (intOf i).toNat)
  case atStart => exact ⟨0, Nat.zero_le _, rfl, rfl, fun j hj => absurd hj (Nat.not_lt_zero _), rfl⟩
  case round =>
    obtain ⟨k, hk, rfl, rfl, hz, hw⟩ := hrel
    obtain rfl := hw.symm
    have HZ := Hid.mk' hz
    clear hz
    by_cases hlt : k < l.length
    · have ci : (k : Int) < (l.length : Int) := by omega
      rcases HA.out with ha | ⟨b, o, rfl, hbs, hc⟩
      · exact absurd hlt (by rw [ha]; exact Nat.not_lt_zero _)
      obtain ⟨q1, q3, p, d, q2, _⟩ := hc k hlt
      have st := xsz_take l k hlt
      have sl := xsz_le l (k + 1)
      clear hc
      by_cases g : 240 < (xkK l k).hd.length
      · have E := Hid.mk' (ps_hit hlt g)
        have g' : 240 < ((xkK l k).hd.length : Int) := by omega
        generalize hn2 : (xkK l k).hd.length = n at *
        go_wp2_with fail
        refine bodyPost_ret (v := .agg #[.int .i64 2, .int .i64 0]) (by simp [results, Try.results18, go_sem, *]) rfl ?_
        exact ⟨by rw [E.out.1, E.out.2], (HN.out.setCell (p := ⟨w.heap.size, 0, none⟩) (Nat.le_refl _) _).setCell (p := ⟨w.heap.size, 1, none⟩) (Nat.le_refl _) _⟩
      · have g' : ¬ 240 < ((xkK l k).hd.length : Int) := by omega
        have Z2 : Hid (∀ j, j < k + 1 → (xkK l j).hd.length ≤ 240) := Hid.mk' (fun j hj => by
          by_cases h : j = k
          · subst h; omega
          · exact HZ.out j (by omega))
        have ZS : Hid (xsz (l.take (k + 1)) = xsz (l.take k) + (xkK l k).hd.length) := Hid.mk' st
        have wr1 : IntKind.i64.wrap ((xsz (l.take k) : Int) + ((xkK l k).hd.length : Int)) = (xsz (l.take k) : Int) + ((xkK l k).hd.length : Int) := by rw [IntKind.wrap_i64]; omega
        clear g st sl
        generalize hn2 : (xkK l k).hd.length = n at *
        go_wp2_with fail
        go_roundw
        case rel => exact ⟨k + 1, by omega, by go_num, by congr 1; have := ZS.out; omega, Z2.out, by first | rfl | trivial⟩
        case measure => simp [intOf]; omega
    · have ci : ¬ (k : Int) < (l.length : Int) := by omega
      have e : k = l.length := by omega
      subst e
      have E := Hid.mk' (ps_none (l := l) (by omega) HZ.out)
      rw [List.take_length]
      go_wp2
      refine bodyPost_ret (v := .agg #[.int .i64 0, .int .i64 (xsz l : Int)]) (by simp [results, Try.results18, go_sem, *]) rfl ?_
      exact ⟨by rw [E.out.1, E.out.2], (HN.out.setCell (p := ⟨w.heap.size, 0, none⟩) (Nat.le_refl _) _).setCell (p := ⟨w.heap.size, 1, none⟩) (Nat.le_refl _) _⟩

theorem tooMuch_any (x y : Int) (p : Option Addr) (n d : Nat) (w : World) :
    Calls Try.prog 28 #[.agg #[.int .i64 x, .int .i64 y, .slice p n d]] w fun e w' => e = .returned (.bool (decide (240 < (n : Int)))) ∧ Below w.heap.size w w' := by
  by_cases g : 240 < (n : Int)
  · go_enter Try.func28, Try.ntmps28
    go_wp2
    go_ret
    exact ⟨by simp [g], (Below.refl _ _).alloc (Nat.le_refl _) _⟩
  · go_enter Try.func28, Try.ntmps28
    go_wp2
    go_ret
    exact ⟨by simp [g], (Below.refl _ _).alloc (Nat.le_refl _) _⟩

set_option maxHeartbeats 1600000 in
theorem implPS_any (a : Option Addr) (c : Nat) (l : List XK) (w : World) (ha : XsAt w a l) (hl : (l.length : Int) + xsz l ≤ 1048576) :
    Calls Try.prog 17 #[.slice a l.length c] w fun e w' => e = .returned (.agg #[.int .i64 (psC l), .int .i64 (psV l)]) ∧ Below w.heap.size w w' := by
  have N0 := below_new w (.cells #[.int .i64 0, .int .i64 0] 44)
  have RB := Hid.mk' (rowp2 w 44 (.int .i64 0) (.int .i64 0))
  have HN := Hid.mk' N0
  have HA := Hid.mk' (ha.below N0)
  clear ha N0
  generalize hW : w.alloc (.cells #[.int .i64 0, .int .i64 0] 44) = W at *
  obtain ⟨b0, b1, b2⟩ := cells2 RB.out
  have f0 := RB.out.frozen 0
  have f1 := RB.out.frozen 1
  by_cases h20 : 20 < (l.length : Int)
  · have E := Hid.mk' (ps_many (l := l) (by omega))
    go_enter Try.func17, Try.ntmps17
    go_wp2_with fail
    clear hW
    go_wp2
    refine bodyPost_ret (v := .agg #[.int .i64 2, .int .i64 0]) (by simp [results, Try.results17, go_sem, *]) rfl ?_
    exact ⟨by rw [E.out.1, E.out.2], (HN.out.setCell (p := ⟨w.heap.size, 0, none⟩) (Nat.le_refl _) _).setCell (p := ⟨w.heap.size, 1, none⟩) (Nat.le_refl _) _⟩
  go_enter Try.func17, Try.ntmps17
  go_wp2_with fail
  clear hW b0 b1 f0 f1
  go_loopw [3, 5, 12] (fun x _ i wr => ∃ k : Nat, k ≤ l.length ∧ i = .int .i64 k ∧ x = .int .i64 (xsz (l.take k) : Int) ∧ (∀ j, j < k → (xkK l j).hd.length ≤ 240) ∧ Below W.heap.size W wr) (fun _ _ i _ => l.length - (intOf i).toNat)
  case atStart => exact ⟨0, Nat.zero_le _, rfl, rfl, fun j hj => absurd hj (Nat.not_lt_zero _), Below.refl _ _⟩
  case round =>
    obtain ⟨k, hk, rfl, rfl, hz, hbl⟩ := hrel
    have HZ := Hid.mk' hz
    have HB := Hid.mk' hbl
    clear hz hbl
    by_cases hlt : k < l.length
    · have ci : (k : Int) < (l.length : Int) := by omega
      rcases HA.out.below HB.out with ha | ⟨b, o, rfl, hbs, hc⟩
      · exact absurd hlt (by rw [ha]; exact Nat.not_lt_zero _)
      obtain ⟨q1, q3, p, d, q2, _⟩ := hc k hlt
      have st := xsz_take l k hlt
      have sl := xsz_le l (k + 1)
      clear hc
      have NB := below_new wr (.cells #[.int .i64 (xkK l k).pl, .int .i64 (xkK l k).ct, .slice p (xkK l k).hd.length d] 33)
      have RP := Hid.mk' (row3 wr 33 (.int .i64 (xkK l k).pl) (.int .i64 (xkK l k).ct) (.slice p (xkK l k).hd.length d))
      have KT := Hid.mk' (tooMuch_any (xkK l k).pl (xkK l k).ct p (xkK l k).hd.length d (wr.alloc (.cells #[.int .i64 (xkK l k).pl, .int .i64 (xkK l k).ct, .slice p (xkK l k).hd.length d] 33)))
      have HB := Hid.mk' (HB.out.trans (NB.mono HB.out.size))
      clear NB
      by_cases g : 240 < (xkK l k).hd.length
      · have E := Hid.mk' (ps_hit hlt g)
        have KT := KT.out
        rw [show decide (240 < ((xkK l k).hd.length : Int)) = true from by simp; omega] at KT
        have KT := Hid.mk' KT
        clear g st sl
        generalize hn2 : (xkK l k).hd.length = n at *
        generalize hn1 : (xkK l k).pl = pl at *
        generalize hn3 : (xkK l k).ct = ct at *
        generalize hV : wr.alloc (.cells #[.int .i64 pl, .int .i64 ct, .slice p n d] 33) = V at *
        obtain ⟨p0, p1, p2_, p3⟩ := cells3 RP.out
        go_wp2_with fail
        clear hV p0 p1 p2_ p3
        refine KT.out.mono ?_
        rintro e w1 ⟨rfl, hb1⟩
        have HB := Hid.mk' (HB.out.trans (hb1.mono HB.out.size))
        have RW := rowB RB.out HB.out
        have HW := Hid.mk' (HN.out.trans (HB.out.mono HN.out.size))
        obtain ⟨b0, b1, _⟩ := cells2 RW
        have f0 := RW.frozen 0
        have f1 := RW.frozen 1
        clear hb1 KT RW
        go_wp2
        refine bodyPost_ret (v := .agg #[.int .i64 2, .int .i64 0]) (by simp [results, Try.results17, go_sem, *]) rfl ?_
        exact ⟨by rw [E.out.1, E.out.2], (HW.out.setCell (p := ⟨w.heap.size, 0, none⟩) (Nat.le_refl _) _).setCell (p := ⟨w.heap.size, 1, none⟩) (Nat.le_refl _) _⟩
      · have KT := KT.out
        rw [show decide (240 < ((xkK l k).hd.length : Int)) = false from by simp; omega] at KT
        have KT := Hid.mk' KT
        have Z2 : Hid (∀ j, j < k + 1 → (xkK l j).hd.length ≤ 240) := Hid.mk' (fun j hj => by
          by_cases h : j = k
          · subst h; omega
          · exact HZ.out j (by omega))
        have ZS : Hid (xsz (l.take (k + 1)) = xsz (l.take k) + (xkK l k).hd.length) := Hid.mk' st
        have wr1 : IntKind.i64.wrap ((xsz (l.take k) : Int) + ((xkK l k).hd.length : Int)) = (xsz (l.take k) : Int) + ((xkK l k).hd.length : Int) := by rw [IntKind.wrap_i64]; omega
        clear g st sl
        generalize hn2 : (xkK l k).hd.length = n at *
        generalize hn1 : (xkK l k).pl = pl at *
        generalize hn3 : (xkK l k).ct = ct at *
        generalize hV : wr.alloc (.cells #[.int .i64 pl, .int .i64 ct, .slice p n d] 33) = V at *
        obtain ⟨p0, p1, p2_, p3⟩ := cells3 RP.out
        go_wp2_with fail
        clear hV p0 p1 p2_ p3
        refine KT.out.mono ?_
        rintro e w1 ⟨rfl, hb1⟩
        have HB := Hid.mk' (HB.out.trans (hb1.mono HB.out.size))
        obtain ⟨p0, p1, p2_, p3⟩ := cells3 (rowB RP.out hb1)
        clear hb1 KT
        go_wp2
        go_roundw
        case rel => exact ⟨k + 1, by omega, by go_num, by congr 1; have := ZS.out; omega, Z2.out, HB.out⟩
        case measure => simp [intOf]; omega
    · have ci : ¬ (k : Int) < (l.length : Int) := by omega
      have e : k = l.length := by omega
      subst e
      have E := Hid.mk' (ps_none (l := l) (by omega) HZ.out)
      rw [List.take_length]
      have RW := rowB RB.out HB.out
      have HW := Hid.mk' (HN.out.trans (HB.out.mono HN.out.size))
      obtain ⟨b0, b1, _⟩ := cells2 RW
      have f0 := RW.frozen 0
      have f1 := RW.frozen 1
      clear RW
      go_wp2
      refine bodyPost_ret (v := .agg #[.int .i64 0, .int .i64 (xsz l : Int)]) (by simp [results, Try.results17, go_sem, *]) rfl ?_
      exact ⟨by rw [E.out.1, E.out.2], (HW.out.setCell (p := ⟨w.heap.size, 0, none⟩) (Nat.le_refl _) _).setCell (p := ⟨w.heap.size, 1, none⟩) (Nat.le_refl _) _⟩

end Go.Proofs.Ytmabfeckmklenaa
