/- Walks of the specification's side: the fault of a table, the sum of its sizes. -/
import Derived.Test.YtahkneghmgmnbaaWc
import Derived.Test.YtahkneghmgmnbaaMath
namespace Go.Proofs.Ytahkneghmgmnbaa
open Go.RowKit
set_option linter.unusedVariables false

set_option maxHeartbeats 400000 in
theorem l1Of_any (tb pb po : Nat) (a b : Value) (ad : Bool) (w : World) (h0 : w.cell? ⟨tb, 0, none⟩ = some a) (h1 : w.cell? ⟨tb, 1, none⟩ = some b) (h2 : w.cell? ⟨pb, po, none⟩ = some (.bool ad)) :
    Calls Try.prog 63 #[.pointer (some ⟨tb, 0, none⟩), .pointer (some ⟨pb, po, none⟩)] w fun e w' => e = .returned (if ad then b else a) ∧ w' = w := by
  cases ad <;> go_enter Try.func63, Try.ntmps63
  all_goals go_wp2
  all_goals go_ret
  all_goals exact ⟨rfl, rfl⟩

set_option maxHeartbeats 400000 in
theorem l1Piece_core (tb pb po : Nat) (a : Option Addr) (n c : Nat) (fr sz : Int) (w : World)
    (hof : Calls Try.prog 63 #[.pointer (some ⟨tb, 0, none⟩), .pointer (some ⟨pb, po, none⟩)] w fun e w' => e = .returned (.slice a n c) ∧ w' = w)
    (h3 : w.cell? ⟨pb, po + 1, none⟩ = some (.int .i64 fr)) (h4 : w.cell? ⟨pb, po + 2, none⟩ = some (.int .i64 sz)) (g1 : n ≤ 2000) :
    Calls Try.prog 62 #[.pointer (some ⟨tb, 0, none⟩), .pointer (some ⟨pb, po, none⟩)] w fun e w' => e = .returned (.bool (decide (0 ≤ fr) && decide (1 ≤ sz) && decide (sz ≤ n - fr))) ∧ Below w.heap.size w w' := by
  have Hof := Hid.mk' hof
  clear hof
  by_cases d1 : 0 ≤ fr
  · by_cases d2 : 1 ≤ sz
    · by_cases d3 : fr ≤ n
      · rw [show (decide (0 ≤ fr) && decide (1 ≤ sz) && decide (sz ≤ n - fr)) = decide (sz ≤ n - fr) from by simp [d1, d2]]
        go_enter Try.func62, Try.ntmps62
        go_wp2_with (go_at_call 63; refine (Hof.out).mono ?_; rintro e w' ⟨rfl, rfl⟩)
        go_quiet (fail)
        go_wp2
        go_ret
        exact ⟨rfl, below_drewN (Below.refl _ _) _⟩
      · have d4 : decide (fr ≤ (n : Int)) = false := by simpa using d3
        rw [show (decide (0 ≤ fr) && decide (1 ≤ sz) && decide (sz ≤ n - fr)) = false from by simp [d1, d2]; omega]
        clear d3
        go_enter Try.func62, Try.ntmps62
        go_wp2_with (go_at_call 63; refine (Hof.out).mono ?_; rintro e w' ⟨rfl, rfl⟩)
        go_quiet (fail)
        go_wp2
        go_ret
        exact ⟨rfl, below_drewN (Below.refl _ _) _⟩
    · have d4 : decide (1 ≤ sz) = false := by simpa using d2
      rw [show (decide (0 ≤ fr) && decide (1 ≤ sz) && decide (sz ≤ n - fr)) = false from by simp [d4]]
      clear d2
      go_enter Try.func62, Try.ntmps62
      go_wp2_with (go_at_call 63; refine (Hof.out).mono ?_; rintro e w' ⟨rfl, rfl⟩)
      go_quiet (fail)
      go_wp2
      go_ret
      exact ⟨rfl, below_drewN (Below.refl _ _) _⟩
  · have d4 : decide (0 ≤ fr) = false := by simpa using d1
    rw [show (decide (0 ≤ fr) && decide (1 ≤ sz) && decide (sz ≤ n - fr)) = false from by simp [d4]]
    clear d1
    go_enter Try.func62, Try.ntmps62
    go_wp2_with (go_at_call 63; refine (Hof.out).mono ?_; rintro e w' ⟨rfl, rfl⟩)
    go_quiet (fail)
    go_wp2
    go_ret
    exact ⟨rfl, below_drewN (Below.refl _ _) _⟩

theorem l1Piece_any (tb pb po : Nat) (a1 a2 : Option Addr) (c1 c2 : Nat) (t : TB) (p : PC) (w : World) (h0 : w.cell? ⟨tb, 0, none⟩ = some (.slice a1 t.base.length c1)) (h1 : w.cell? ⟨tb, 1, none⟩ = some (.slice a2 t.more.length c2))
    (h2 : w.cell? ⟨pb, po, none⟩ = some (.bool p.ad)) (h3 : w.cell? ⟨pb, po + 1, none⟩ = some (.int .i64 p.fr)) (h4 : w.cell? ⟨pb, po + 2, none⟩ = some (.int .i64 p.sz))
    (g1 : t.base.length ≤ 2000) (g2 : t.more.length ≤ 2000) :
    Calls Try.prog 62 #[.pointer (some ⟨tb, 0, none⟩), .pointer (some ⟨pb, po, none⟩)] w fun e w' => e = .returned (.bool (lies t p)) ∧ Below w.heap.size w w' := by
  unfold lies room
  cases hp : p.ad
  · exact l1Piece_core tb pb po a1 t.base.length c1 p.fr p.sz w (by simpa [hp] using l1Of_any tb pb po _ _ p.ad w h0 h1 h2) h3 h4 g1
  · exact l1Piece_core tb pb po a2 t.more.length c2 p.fr p.sz w (by simpa [hp] using l1Of_any tb pb po _ _ p.ad w h0 h1 h2) h3 h4 g2

set_option maxHeartbeats 400000 in
theorem l1Size_any (tb : Nat) (a : Option Addr) (c : Nat) (l : List PC) (w : World) (h0 : w.cell? ⟨tb, 2, none⟩ = some (.slice a l.length c)) (hp : PAt w a l) (hs : Small l) :
    Calls Try.prog 34 #[.pointer (some ⟨tb, 0, none⟩)] w fun e w' => e = .returned (.int .i64 (total l)) ∧ w' = w := by
  have hl := hs.1
  go_enter Try.func34, Try.ntmps34
  go_wp2
  go_loop [3, 4] (fun n i => ∃ k : Nat, k ≤ l.length ∧ i = .int .i64 k ∧ n = .int .i64 (total (l.take k))) (fun _ i => l.length - (intOf i).toNat)
  case atStart => exact ⟨0, Nat.zero_le _, rfl, rfl⟩
  case round =>
    obtain ⟨k, hk, rfl, rfl⟩ := hrel
    have ht := hs.total_le k hk
    by_cases hlt : k < l.length
    · rcases hp with hp | ⟨b, o, rfl, hbs, hc⟩
      · exact absurd hlt (by rw [hp]; exact Nat.not_lt_zero _)
      obtain ⟨_, _, q3⟩ := hc k hlt
      have hz := hs.2 k hlt
      have E := Hid.mk' (total_take l k hlt)
      obtain ⟨x, hx⟩ : ∃ x, x = total (l.take k) := ⟨_, rfl⟩
      rw [← hx] at ht ⊢
      have X := Hid.mk' hx
      clear hc hx
      go_wp2
      go_round
      case rel => exact ⟨k + 1, by omega, by go_num, by rw [E.out, ← X.out]⟩
      case measure => simp [intOf]; omega
    · go_wp2
      go_ret
      have e : k = l.length := by omega
      subst e
      exact ⟨by rw [List.take_length]; rfl, rfl⟩

set_option maxHeartbeats 800000 in
theorem l1Fault_any (tb : Nat) (a1 a2 a3 : Option Addr) (c1 c2 c3 : Nat) (t : TB) (w : World) (h0 : w.cell? ⟨tb, 0, none⟩ = some (.slice a1 t.base.length c1)) (h1 : w.cell? ⟨tb, 1, none⟩ = some (.slice a2 t.more.length c2))
    (h2 : w.cell? ⟨tb, 2, none⟩ = some (.slice a3 t.pcs.length c3)) (hlt : tb < w.heap.size) (hp : PAt w a3 t.pcs) (hl : (t.base.length : Int) + t.more.length + t.pcs.length ≤ 1048576) :
    Calls Try.prog 48 #[.pointer (some ⟨tb, 0, none⟩)] w fun e w' => e = .returned (.int .i64 (fault t)) ∧ Below w.heap.size w w' := by
  by_cases d1 : 2000 < t.base.length
  · rw [fault_many (.inl d1)]
    go_enter Try.func48, Try.ntmps48
    go_wp2
    go_ret
    exact ⟨rfl, Below.refl _ _⟩
  by_cases d2 : 2000 < t.more.length
  · rw [fault_many (.inr (.inl d2))]
    go_enter Try.func48, Try.ntmps48
    go_wp2
    go_ret
    exact ⟨rfl, Below.refl _ _⟩
  by_cases d3 : 40 < t.pcs.length
  · rw [fault_many (.inr (.inr d3))]
    go_enter Try.func48, Try.ntmps48
    go_wp2
    go_ret
    exact ⟨rfl, Below.refl _ _⟩
  have e1 : decide (2000 < (t.base.length : Int)) = false := by simp; omega
  have e2 : decide (2000 < (t.more.length : Int)) = false := by simp; omega
  have e3 : decide (40 < (t.pcs.length : Int)) = false := by simp; omega
  go_enter Try.func48, Try.ntmps48
  go_wp2
  go_loopw [3] (fun i wr => ∃ k : Nat, k ≤ t.pcs.length ∧ i = .int .i64 k ∧ upto t k ∧ Below w.heap.size w wr) (fun i _ => t.pcs.length - (intOf i).toNat)
  case atStart => exact ⟨0, Nat.zero_le _, rfl, fun j hj => absurd hj (Nat.not_lt_zero _), Below.refl _ _⟩
  case round =>
    obtain ⟨k, hk, rfl, hup, hbl⟩ := hrel
    have q0 : wr.cell? ⟨tb, 0, none⟩ = some (.slice a1 t.base.length c1) := (hbl.cell hlt).trans h0
    have q1 : wr.cell? ⟨tb, 1, none⟩ = some (.slice a2 t.more.length c2) := (hbl.cell hlt).trans h1
    have q2 : wr.cell? ⟨tb, 2, none⟩ = some (.slice a3 t.pcs.length c3) := (hbl.cell hlt).trans h2
    by_cases hlk : k < t.pcs.length
    · rcases hp with hp | ⟨b, o, rfl, hbs, hc⟩
      · exact absurd hlk (by rw [hp]; exact Nat.not_lt_zero _)
      obtain ⟨g1, g2, g3⟩ := hc k hlk
      have K := l1Piece_any tb b (o + k * 3) a1 a2 c1 c2 t (pc t.pcs k) wr q0 q1 ((hbl.cell hbs).trans g1) ((hbl.cell hbs).trans g2) ((hbl.cell hbs).trans g3) (by omega) (by omega)
      have B := Hid.mk' hbl
      have U := Hid.mk' hup
      have KK := Hid.mk' K
      clear hc g1 g2 g3 K hbl hup h0 h1 h2
      cases hli : lies t (pc t.pcs k)
      · have F := Hid.mk' (fault_range d1 d2 d3 (not_all hlk hli))
        rw [hli] at KK
        clear hli
        go_wp2_with fail
        refine KK.out.mono ?_
        rintro e w1 ⟨rfl, hb1⟩
        go_wp2
        go_ret
        exact ⟨by rw [F.out]; rfl, B.out.trans (hb1.mono B.out.size)⟩
      · have U1 := Hid.mk' (upto_step U.out hli)
        rw [hli] at KK
        clear hli
        go_wp2_with fail
        refine KK.out.mono ?_
        rintro e w1 ⟨rfl, hb1⟩
        go_wp2
        go_roundw
        case rel => exact ⟨k + 1, by omega, by go_num, U1.out, B.out.trans (hb1.mono B.out.size)⟩
        case measure => simp [intOf]; omega
    · have ha := all_of_upto hup (by omega)
      have hsm := small_of d1 d2 d3 ha
      have hts := hsm.total_le t.pcs.length (Nat.le_refl _)
      rw [List.take_length] at hts
      have hpr := PAt.below_of hp hbl
      by_cases d4 : 240 < total t.pcs
      · have F := Hid.mk' (fault_large d1 d2 d3 ha d4)
        go_wp2_with fail
        refine (l1Size_any tb a3 c3 t.pcs wr q2 hpr hsm).mono ?_
        rintro e w1 ⟨rfl, rfl⟩
        go_wp2
        go_ret
        exact ⟨by rw [F.out]; rfl, hbl⟩
      · have F := Hid.mk' (fault_ok d1 d2 d3 ha d4)
        go_wp2_with fail
        refine (l1Size_any tb a3 c3 t.pcs wr q2 hpr hsm).mono ?_
        rintro e w1 ⟨rfl, rfl⟩
        go_wp2
        go_ret
        exact ⟨by rw [F.out]; rfl, hbl⟩

end Go.Proofs.Ytahkneghmgmnbaa
