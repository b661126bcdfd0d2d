/- Both sides' SameBuilds. -/
import Derived.Test.YtpncbcmngfpkfaaU5
import Derived.Test.YtpncbcmngfpkfaaU7
import Derived.Test.YtpncbcmngfpkfaaU1
import Derived.ShutString
import Derived.ChangeOld
import Derived.ChangeMaps5
import Derived.Lib.SmallJoins
import Derived.Deep.SlicePairs
import Derived.Test.YtpncbcmngfpkfaaU2
namespace Go.Proofs.Ytpncbcmngfpkfaa
open Go.RowKit
set_option linter.unusedVariables false
set_option linter.unusedSimpArgs false

def sameI (l m : List Int) : Bool := decide (l.length = m.length) && allK l.length (fun k => wv l k == wv m k)
def sameS (s t : BS) : Bool := sameNs s.nd t.nd && (sameI s.op t.op && (s.lg == t.lg))

set_option maxHeartbeats 1600000 in
theorem equalI_any (a b : Option Addr) (c d : Nat) (l m : List Int) (w : World) (ha : IAt w a l) (hb : IAt w b m) (hl : (l.length : Int) ≤ 1048576) (hm : (m.length : Int) ≤ 1048576) :
    Calls Try.prog 23 #[.slice a l.length c, .slice b m.length d] w fun e w' => e = .returned (.bool (sameI l m)) ∧ Below w.heap.size w w' := by
  have HA := Hid.mk' ha
  have HB := Hid.mk' hb
  clear ha hb
  by_cases hq : l.length = m.length
  rotate_left
  · have E : Hid (sameI l m = false) := Hid.mk' (by unfold sameI; rw [decide_eq_false hq]; rfl)
    have hq' : ¬ (l.length : Int) = m.length := by omega
    go_enter Try.func23, Try.ntmps23
    go_wp2
    go_ret
    exact ⟨by rw [E.out]; rfl, Below.refl _ _⟩
  have Q := Hid.mk' hq
  have hq' : (l.length : Int) = m.length := by omega
  clear hq
  go_enter Try.func23, Try.ntmps23
  go_wp2
  go_loopw [13] (fun i wr => ∃ k : Nat, k ≤ l.length ∧ i = .int .i64 k ∧ (∀ j, j < k → (wv l j == wv m j) = true) ∧ Below w.heap.size w wr) (fun i _ => l.length - (intOf i).toNat)
  case atStart => exact ⟨0, Nat.zero_le _, rfl, fun j h => absurd h (Nat.not_lt_zero _), Below.refl _ _⟩
  case round =>
    obtain ⟨k, hk, rfl, hn, hbl⟩ := hrel
    have HN := Hid.mk' hn
    have R2 := Hid.mk' hbl
    by_cases hlt : k < l.length
    · have ci : (k : Int) < (l.length : Int) := by omega
      have ci2 : (k : Int) < (m.length : Int) := by omega
      rcases HA.out.below hbl with ha | ⟨b1, o1, rfl, s1, hc1⟩
      · exact absurd hlt (by rw [ha]; exact Nat.not_lt_zero _)
      rcases HB.out.below hbl with hb | ⟨b2, o2, rfl, s2, hc2⟩
      · exact absurd hlt (by rw [Q.out, hb]; exact Nat.not_lt_zero _)
      have x0 := hc1 k hlt
      have y0 := hc2 k (by omega)
      clear hbl hc1 hc2 hn
      generalize hx : wv l k = X at *
      generalize hy : wv m k = Y at *
      by_cases e1 : X = Y
      · have e2 : (X != Y) = false := by simp [e1]
        have E1 : Hid ((wv l k == wv m k) = true) := Hid.mk' (by rw [hx, hy]; simp [e1])
        clear e1 hx hy
        go_wp2
        go_quiet (fail)
        go_wp2
        go_roundw
        case rel => exact ⟨k + 1, by omega, by go_num, fun j hj => by
          by_cases h : j = k
          · subst h; exact E1.out
          · exact HN.out j (by omega), below_drewN R2.out _⟩
        case measure => simp [intOf]; omega
      · have e2 : (X != Y) = true := by simp [e1]
        have E : Hid (sameI l m = false) := Hid.mk' (by unfold sameI; rw [decide_eq_true Q.out, allK_false hlt (by rw [hx, hy]; simp [e1])]; rfl)
        clear e1 hx hy
        go_wp2
        go_quiet (fail)
        go_wp2
        go_ret
        exact ⟨by rw [E.out]; rfl, below_drewN R2.out _⟩
    · have ci : ¬ (k : Int) < (l.length : Int) := by omega
      have e : k = l.length := by omega
      subst e
      have E : Hid (sameI l m = true) := Hid.mk' (by unfold sameI; rw [decide_eq_true Q.out, allK_true HN.out]; rfl)
      clear hbl hn
      go_wp2
      go_ret
      exact ⟨by rw [E.out]; rfl, R2.out⟩

/-- Two states in their boxes. -/
theorem two_boxes (w : World) (T : TypeId) (x0 x1 x2 y0 y1 y2 : Value) :
    Below w.heap.size w ((w.alloc (.cells #[x0, x1, x2] T)).alloc (.cells #[y0, y1, y2] T)) ∧ ((w.alloc (.cells #[x0, x1, x2] T)).alloc (.cells #[y0, y1, y2] T)).rowIs w.heap.size T 3 (r3 x0 x1 x2) ∧ ((w.alloc (.cells #[x0, x1, x2] T)).alloc (.cells #[y0, y1, y2] T)).rowIs (w.heap.size + 1) T 3 (r3 y0 y1 y2) := by
  refine ⟨((Below.refl w.heap.size w).alloc (Nat.le_refl _) _).alloc (by simp) _, (row3 w T x0 x1 x2).alloc _, ?_⟩
  have := row3 (w.alloc (.cells #[x0, x1, x2] T)) T y0 y1 y2
  rw [show (w.alloc (.cells #[x0, x1, x2] T)).heap.size = w.heap.size + 1 from by simp] at this
  exact this

theorem frz3 {w : World} {g : Nat} {T : TypeId} {f : Nat → Value} (h : w.rowIs g T 3 f) : w.frozen? ⟨g, 0, none⟩ = false ∧ w.frozen? ⟨g, 1, none⟩ = false ∧ w.frozen? ⟨g, 2, none⟩ = false := ⟨h.frozen 0, h.frozen 1, h.frozen 2⟩

set_option maxHeartbeats 1600000 in
theorem implSB_any (s t : BS) (a b p q : Option Addr) (c d c' d' : Nat) (w : World) (ha : NsAt w a s.nd) (hb : NsAt w b t.nd) (hp : IAt w p s.op) (hq : IAt w q t.op) (hl : (s.nd.length : Int) + nssz s.nd + s.op.length ≤ 1048576) (hm : (t.nd.length : Int) + nssz t.nd + t.op.length ≤ 1048576) :
    Calls Try.prog 11 #[.agg #[.slice a s.nd.length c, .slice p s.op.length c', .bool s.lg], .agg #[.slice b t.nd.length d, .slice q t.op.length d', .bool t.lg]] w fun e w' => e = .returned (.bool (sameS s t)) ∧ Below w.heap.size w w' := by
  obtain ⟨B0, R1, R2⟩ := two_boxes w 30 (.slice a s.nd.length c) (.slice p s.op.length c') (.bool s.lg) (.slice b t.nd.length d) (.slice q t.op.length d') (.bool t.lg)
  have KN := Hid.mk' (implSameN_any a b c d s.nd t.nd _ (ha.below B0) (hb.below B0) (by omega) (by omega))
  have HX := Hid.mk' (hp.below B0)
  have HY := Hid.mk' (hq.below B0)
  have H1 := Hid.mk' R1
  have H2 := Hid.mk' R2
  have HB := Hid.mk' B0
  have E : Hid (sameS s t = (sameNs s.nd t.nd && (sameI s.op t.op && (s.lg == t.lg)))) := Hid.mk' rfl
  clear ha hb hp hq B0 R1 R2
  generalize hW : (w.alloc (.cells #[.slice a s.nd.length c, .slice p s.op.length c', .bool s.lg] 30)).alloc (.cells #[.slice b t.nd.length d, .slice q t.op.length d', .bool t.lg] 30) = W at *
  obtain ⟨x0, x1, x2, x3⟩ := cells3 H1.out
  obtain ⟨y0, y1, y2, y3⟩ := cells3 H2.out
  generalize hS : sameNs s.nd t.nd = S at *
  cases S with
  | false =>
    go_enter Try.func11, Try.ntmps11
    go_wp2_with fail
    clear hW
    refine KN.out.mono ?_
    rintro e w1 ⟨rfl, hb⟩
    have HB := Hid.mk' (HB.out.trans (hb.mono HB.out.size))
    clear hb KN
    go_wp2_with (first | go_big_skip)
    go_ret
    exact ⟨by rw [E.out]; rfl, HB.out⟩
  | true =>
    have KI : Hid (∀ w', Below W.heap.size W w' → Calls Try.prog 23 #[.slice p s.op.length c', .slice q t.op.length d'] w' fun e w'' => e = .returned (.bool (sameI s.op t.op)) ∧ Below w'.heap.size w' w'') := fun w' hb => equalI_any p q c' d' s.op t.op w' (HX.out.below hb) (HY.out.below hb) (by omega) (by omega)
    generalize hI : sameI s.op t.op = I at *
    go_enter Try.func11, Try.ntmps11
    go_wp2_with fail
    clear hW
    refine KN.out.mono ?_
    rintro e w1 ⟨rfl, hb⟩
    have KI := Hid.mk' (KI.out w1 hb)
    have HB := Hid.mk' (HB.out.trans (hb.mono HB.out.size))
    have H1 := Hid.mk' (rowB H1.out hb)
    have H2 := Hid.mk' (rowB H2.out hb)
    clear hb KN x0 x1 x2 x3 y0 y1 y2 y3
    obtain ⟨x0, x1, x2, x3⟩ := cells3 H1.out
    obtain ⟨y0, y1, y2, y3⟩ := cells3 H2.out
    go_wp2_with (first | go_big_skip | fail)
    refine KI.out.mono ?_
    rintro e w2 ⟨rfl, hb⟩
    have HB := Hid.mk' (HB.out.trans (hb.mono HB.out.size))
    have H1 := Hid.mk' (rowB H1.out hb)
    have H2 := Hid.mk' (rowB H2.out hb)
    clear hb KI x0 x1 x2 x3 y0 y1 y2 y3
    obtain ⟨x0, x1, x2, x3⟩ := cells3 H1.out
    obtain ⟨y0, y1, y2, y3⟩ := cells3 H2.out
    cases I with
    | false =>
      go_wp2_with (first | go_big_skip)
      go_ret
      exact ⟨by rw [E.out]; rfl, HB.out⟩
    | true =>
      go_wp2_with (first | go_big_skip)
      go_ret
      exact ⟨by rw [E.out]; first | rfl | simp, HB.out⟩

set_option maxHeartbeats 3200000 in
theorem specSB_any (s t : BS) (a b p q : Option Addr) (c d c' d' : Nat) (w : World) (ha : NsAt w a s.nd) (hb : NsAt w b t.nd) (hp : IAt w p s.op) (hq : IAt w q t.op) (hl : (s.nd.length : Int) + nssz s.nd + s.op.length ≤ 1048576) (hm : (t.nd.length : Int) + nssz t.nd + t.op.length ≤ 1048576) :
    Calls Try.prog 10 #[.agg #[.slice a s.nd.length c, .slice p s.op.length c', .bool s.lg], .agg #[.slice b t.nd.length d, .slice q t.op.length d', .bool t.lg]] w fun e w' => e = .returned (.bool (sameS s t)) ∧ Below w.heap.size w w' := by
  obtain ⟨B0, R1, R2⟩ := two_boxes w 30 (.slice a s.nd.length c) (.slice p s.op.length c') (.bool s.lg) (.slice b t.nd.length d) (.slice q t.op.length d') (.bool t.lg)
  have KN := Hid.mk' (specSameN_any a b c d s.nd t.nd _ (ha.below B0) (hb.below B0) (by omega) (by omega))
  have HX := Hid.mk' (hp.below B0)
  have HY := Hid.mk' (hq.below B0)
  have H1 := Hid.mk' R1
  have H2 := Hid.mk' R2
  have HB := Hid.mk' B0
  have E : Hid (sameS s t = (sameNs s.nd t.nd && (sameI s.op t.op && (s.lg == t.lg)))) := Hid.mk' rfl
  clear ha hb hp hq B0 R1 R2
  generalize hW : (w.alloc (.cells #[.slice a s.nd.length c, .slice p s.op.length c', .bool s.lg] 30)).alloc (.cells #[.slice b t.nd.length d, .slice q t.op.length d', .bool t.lg] 30) = W at *
  obtain ⟨x0, x1, x2, x3⟩ := cells3 H1.out
  obtain ⟨y0, y1, y2, y3⟩ := cells3 H2.out
  by_cases hlg : s.lg = t.lg
  rotate_left
  · have hb1 : (s.lg == t.lg) = false := by simp [hlg]
    have E9 : Hid (sameS s t = false) := Hid.mk' (by rw [E.out]; simp [hlg])
    clear hlg
    go_enter Try.func10, Try.ntmps10
    go_wp2_with (first | go_big_skip)
    clear hW
    go_ret
    exact ⟨by rw [E9.out]; rfl, HB.out⟩
  have hb1 : (s.lg == t.lg) = true := by simp [hlg]
  have L := Hid.mk' hlg
  clear hlg
  by_cases hq : s.op.length = t.op.length
  rotate_left
  · have E9 : Hid (sameS s t = false) := Hid.mk' (by rw [E.out]; unfold sameI; rw [decide_eq_false hq]; simp)
    have hq' : ¬ (s.op.length : Int) = t.op.length := by omega
    clear hq
    go_enter Try.func10, Try.ntmps10
    go_wp2_with (first | go_big_skip)
    clear hW
    go_ret
    exact ⟨by rw [E9.out]; rfl, HB.out⟩
  have Q := Hid.mk' hq
  have hq' : (s.op.length : Int) = t.op.length := by omega
  clear hq
  generalize hS : sameNs s.nd t.nd = S at *
  cases S with
  | false =>
    go_enter Try.func10, Try.ntmps10
    go_wp2_with (first | go_big_skip | fail)
    clear hW
    refine KN.out.mono ?_
    rintro e w1 ⟨rfl, hb⟩
    have HB := Hid.mk' (HB.out.trans (hb.mono HB.out.size))
    clear hb KN
    go_wp2_with (first | go_big_skip)
    go_ret
    exact ⟨by rw [E.out]; rfl, HB.out⟩
  | true =>
    go_enter Try.func10, Try.ntmps10
    go_wp2_with (first | go_big_skip | fail)
    clear hW
    refine KN.out.mono ?_
    rintro e w1 ⟨rfl, hb⟩
    have HX := Hid.mk' (HX.out.below hb)
    have HY := Hid.mk' (HY.out.below hb)
    have HB := Hid.mk' (HB.out.trans (hb.mono HB.out.size))
    have H1 := Hid.mk' (rowB H1.out hb)
    have H2 := Hid.mk' (rowB H2.out hb)
    clear hb KN x0 x1 x2 x3 y0 y1 y2 y3
    go_wp2_with (first | go_big_skip)
    go_loopw [5] (fun i wr => ∃ k : Nat, k ≤ s.op.length ∧ i = .int .i64 k ∧ (∀ j, j < k → (wv s.op j == wv t.op j) = true) ∧ Below w1.heap.size w1 wr) (fun i _ => s.op.length - (intOf i).toNat)
    case atStart => exact ⟨0, Nat.zero_le _, rfl, fun j h => absurd h (Nat.not_lt_zero _), Below.refl _ _⟩
    case round =>
      obtain ⟨k, hk, rfl, hn, hbl⟩ := hrel
      have HN := Hid.mk' hn
      have R2 := Hid.mk' (HB.out.trans (hbl.mono HB.out.size))
      have R3 := Hid.mk' hbl
      have H1 := Hid.mk' (rowB H1.out hbl)
      have H2 := Hid.mk' (rowB H2.out hbl)
      obtain ⟨x0, x1, x2, x3⟩ := cells3 H1.out
      obtain ⟨y0, y1, y2, y3⟩ := cells3 H2.out
      by_cases hlt : k < s.op.length
      · have ci : (k : Int) < (s.op.length : Int) := by omega
        have ci2 : (k : Int) < (t.op.length : Int) := by omega
        rcases HX.out.below hbl with ha | ⟨b1, o1, rfl, s1, hc1⟩
        · exact absurd hlt (by rw [ha]; exact Nat.not_lt_zero _)
        rcases HY.out.below hbl with hb | ⟨b2, o2, rfl, s2, hc2⟩
        · exact absurd hlt (by rw [Q.out, hb]; exact Nat.not_lt_zero _)
        have u0 := hc1 k hlt
        have v0 := hc2 k (by omega)
        clear hbl hc1 hc2 hn
        generalize hx : wv s.op k = X at *
        generalize hy : wv t.op k = Y at *
        by_cases e1 : X = Y
        · have e2 : (X != Y) = false := by simp [e1]
          have E1 : Hid ((wv s.op k == wv t.op k) = true) := Hid.mk' (by rw [hx, hy]; simp [e1])
          clear e1 hx hy
          go_wp2
          go_quiet (fail)
          go_wp2
          go_roundw
          case rel => exact ⟨k + 1, by omega, by go_num, fun j hj => by
            by_cases h : j = k
            · subst h; exact E1.out
            · exact HN.out j (by omega), below_drewN R3.out _⟩
          case measure => simp [intOf]; omega
        · have e2 : (X != Y) = true := by simp [e1]
          have E9 : Hid (sameS s t = false) := Hid.mk' (by rw [E.out]; unfold sameI; rw [decide_eq_true Q.out, allK_false hlt (by rw [hx, hy]; simp [e1])]; rfl)
          clear e1 hx hy
          go_wp2
          go_quiet (fail)
          go_wp2
          go_ret
          exact ⟨by rw [E9.out]; rfl, below_drewN R2.out _⟩
      · have ci : ¬ (k : Int) < (s.op.length : Int) := by omega
        have e : k = s.op.length := by omega
        subst e
        have E9 : Hid (sameS s t = true) := Hid.mk' (by rw [E.out]; unfold sameI; rw [decide_eq_true Q.out, allK_true HN.out, L.out]; simp)
        clear hbl hn
        go_wp2
        go_ret
        exact ⟨by rw [E9.out]; rfl, R2.out⟩

end Go.Proofs.Ytpncbcmngfpkfaa

/- The law on SameBuilds. -/
namespace Go.Proofs.Ytpncbcmngfpkfaa
open Go.RowKit
set_option linter.unusedVariables false
set_option linter.unusedSimpArgs false

/-- What the law on SameBuilds holds on to. -/
def HoldB (w : World) (x0 x1 x2 y0 y1 y2 : Value) (a p b q : Option Addr) (s t : BS) (wi : World) : Prop :=
  Below w.heap.size w wi ∧ wi.rowIs w.heap.size 25 3 (r3 x0 x1 x2) ∧ wi.rowIs (w.heap.size + 1) 25 3 (r3 y0 y1 y2) ∧ SAt wi a p s ∧ SAt wi b q t

theorem HoldB.below {w wi wj : World} {x0 x1 x2 y0 y1 y2 : Value} {a p b q : Option Addr} {s t : BS} (h : HoldB w x0 x1 x2 y0 y1 y2 a p b q s t wi) (hb : Below wi.heap.size wi wj) : HoldB w x0 x1 x2 y0 y1 y2 a p b q s t wj :=
  ⟨h.1.trans (hb.mono h.1.size), rowB h.2.1 hb, rowB h.2.2.1 hb, h.2.2.2.1.below hb, h.2.2.2.2.below hb⟩

set_option maxRecDepth 100000 in
set_option maxHeartbeats 8000000 in
theorem lawSB_any (s : BS) (a p : Option Addr) (c c' : Nat) (t : BS) (b q : Option Addr) (d d' : Nat) (w : World) (ha : SAt w a p s) (wa : WideN s.nd) (na : (s.nd.length : Int) ≤ 9223372036854775807) (ma : (s.op.length : Int) ≤ 9223372036854775807) (hb : SAt w b q t) (wb : WideN t.nd) (nb : (t.nd.length : Int) ≤ 9223372036854775807) (mb_ : (t.op.length : Int) ≤ 9223372036854775807) :
    Calls Try.prog 4 #[.agg #[.slice a s.nd.length c, .slice p s.op.length c', .bool s.lg], .agg #[.slice b t.nd.length d, .slice q t.op.length d', .bool t.lg]] w fun e w' => e = .returned (.bool true) ∧ Below w.heap.size w w' := by
  obtain ⟨B0, R1, R2⟩ := two_boxes w 25 (.slice a s.nd.length c) (.slice p s.op.length c') (.bool s.lg) (.slice b t.nd.length d) (.slice q t.op.length d') (.bool t.lg)
  have H0 : HoldB w _ _ _ _ _ _ a p b q s t _ := ⟨B0, R1, R2, ha.below B0, hb.below B0⟩
  have KS := szBuild_any s a p c c' 1048576 _ (ha.below B0).1 wa na ma (by omega) (by omega)
  have HH := Hid.mk' H0
  have WB := Hid.mk' wb
  clear B0 R1 R2 ha hb H0 wa wb
  by_cases g1 : 1048576 < (s.nd.length : Int) + nssz s.nd + s.op.length
  · rw [if_pos g1] at KS
    have KS := Hid.mk' KS
    generalize hW : (w.alloc (.cells #[.slice a s.nd.length c, .slice p s.op.length c', .bool s.lg] 25)).alloc (.cells #[.slice b t.nd.length d, .slice q t.op.length d', .bool t.lg] 25) = W at *
    obtain ⟨x0, x1, x2, x3⟩ := cells3 HH.out.2.1
    go_enter Try.func4, Try.ntmps4
    go_wp2_with fail
    clear hW
    refine KS.out.mono ?_
    rintro e w1 ⟨rfl, hb1⟩
    have HB := Hid.mk' (HH.out.below hb1).1
    clear hb1 KS
    go_wp2
    go_ret
    exact ⟨rfl, HB.out⟩
  rw [if_neg g1] at KS
  have KS := Hid.mk' KS
  have zz : ¬ (1048576 - (s.nd.length : Int) - nssz s.nd - s.op.length < 0) := by omega
  have hl : (s.nd.length : Int) + nssz s.nd + s.op.length ≤ 1048576 := by omega
  clear g1
  generalize hW : (w.alloc (.cells #[.slice a s.nd.length c, .slice p s.op.length c', .bool s.lg] 25)).alloc (.cells #[.slice b t.nd.length d, .slice q t.op.length d', .bool t.lg] 25) = W at *
  obtain ⟨x0, x1, x2, x3⟩ := cells3 HH.out.2.1
  go_enter Try.func4, Try.ntmps4
  go_wp2_with fail
  clear hW
  refine KS.out.mono ?_
  rintro e w1 ⟨rfl, hb1⟩
  have HH := Hid.mk' (HH.out.below hb1)
  clear hb1 KS x0 x1 x2 x3
  have KT := szBuild_any t b q d d' (1048576 - (s.nd.length : Int) - nssz s.nd - s.op.length) w1 HH.out.2.2.2.2.1 WB.out nb mb_ (by omega) (by omega)
  obtain ⟨y0, y1, y2, y3⟩ := cells3 HH.out.2.2.1
  by_cases g2 : 1048576 - (s.nd.length : Int) - nssz s.nd - s.op.length < (t.nd.length : Int) + nssz t.nd + t.op.length
  · rw [if_pos g2] at KT
    have KT := Hid.mk' KT
    go_wp2_with fail
    refine KT.out.mono ?_
    rintro e w2 ⟨rfl, hb2⟩
    have HB := Hid.mk' (HH.out.below hb2).1
    clear hb2 KT
    go_wp2
    go_ret
    exact ⟨rfl, HB.out⟩
  rw [if_neg g2] at KT
  have KT := Hid.mk' KT
  have zy : ¬ (1048576 - (s.nd.length : Int) - nssz s.nd - s.op.length - t.nd.length - nssz t.nd - t.op.length < 0) := by omega
  have hm : (t.nd.length : Int) + nssz t.nd + t.op.length ≤ 1048576 := by omega
  clear g2
  go_wp2_with fail
  refine KT.out.mono ?_
  rintro e w2 ⟨rfl, hb2⟩
  have HH := Hid.mk' (HH.out.below hb2)
  clear hb2 KT y0 y1 y2 y3
  obtain ⟨x0, x1, x2, x3⟩ := cells3 HH.out.2.1
  obtain ⟨y0, y1, y2, y3⟩ := cells3 HH.out.2.2.1
  have AA := Hid.mk' (HH.out.2.2.2.1)
  have AB := Hid.mk' (HH.out.2.2.2.2)
  go_wp2
  clear zz zy
  go_region_held3 (fun w' => w'.cell? ⟨w.heap.size, 0, none⟩ = some (.slice a s.nd.length c) ∧ w'.cell? ⟨w.heap.size, 1, none⟩ = some (.slice p s.op.length c') ∧ w'.cell? ⟨w.heap.size, 2, none⟩ = some (.bool s.lg) ∧ w'.cell? ⟨w.heap.size + 1, 0, none⟩ = some (.slice b t.nd.length d) ∧ w'.cell? ⟨w.heap.size + 1, 1, none⟩ = some (.slice q t.op.length d') ∧ w'.cell? ⟨w.heap.size + 1, 2, none⟩ = some (.bool t.lg)) (simp [*])
    (first | (go_at_call_of 7 (Value.agg #[.slice a s.nd.length c, .slice p s.op.length c', .bool s.lg]); refine (toBuild_at s a p c c' _ (AA.out.below (Below.refl _ _).drew) hl).mono ?_; rintro e w3 ⟨g3, h3, rfl, t3, hb3⟩; replace hb3 := undrew hb3; obtain ⟨hx1, hx2⟩ := bcell hb3; have z1 := hb3.size; have z2 : w.heap.size < w3.heap.size := (by omega); have z3 : w.heap.size + 1 < w3.heap.size := (by omega)) | (go_at_call_of 7 (Value.agg #[.slice b t.nd.length d, .slice q t.op.length d', .bool t.lg]); refine (toBuild_at t b q d d' _ (AB.out.below hb3) hm).mono ?_; rintro e w4 ⟨g4, h4, rfl, t4, hb4⟩; obtain ⟨hx3, hx4⟩ := bcell hb4; have z4 := hb4.size; have z5 : w.heap.size < w4.heap.size := (by omega); have z6 : w.heap.size + 1 < w4.heap.size := (by omega)) | (go_at_call 10; refine (specSB_any s t _ _ _ _ _ _ _ _ _ (t3.below hb4).1 t4.1 (t3.below hb4).2 t4.2 hl hm).mono ?_; rintro e w5 ⟨rfl, hb5⟩; obtain ⟨hx5, hx6⟩ := bcell hb5))
  have H5 := Hid.mk' (((HH.out.below hb3).below hb4).below hb5)
  clear hx1 hx2 hx3 hx4 hx5 hx6 z1 z2 z3 z4 z5 z6 t3 t4 hb3 hb4 hb5 HH x0 x1 x2 x3 y0 y1 y2 y3 AA AB
  obtain ⟨x0, x1, x2, x3⟩ := cells3 H5.out.2.1
  obtain ⟨y0, y1, y2, y3⟩ := cells3 H5.out.2.2.1
  go_wp2_with fail
  refine (toBuild_at s a p c c' _ H5.out.2.2.2.1 hl).mono ?_
  rintro e w6 ⟨g6, h6, rfl, t6, hb6⟩
  have N6 := below_new w6 (.cells #[.slice (some ⟨g6, 0, none⟩) s.nd.length s.nd.length, .slice (some ⟨h6, 0, none⟩) s.op.length s.op.length, .bool s.lg] 30)
  have H6 := Hid.mk' ((H5.out.below hb6).below N6)
  have T6 := Hid.mk' (t6.below N6)
  have Q6 := Hid.mk' (row3 w6 30 (.slice (some ⟨g6, 0, none⟩) s.nd.length s.nd.length) (.slice (some ⟨h6, 0, none⟩) s.op.length s.op.length) (.bool s.lg))
  clear H5 hb6 t6 N6 x0 x1 x2 x3 y0 y1 y2 y3
  generalize hW6 : w6.alloc (.cells #[.slice (some ⟨g6, 0, none⟩) s.nd.length s.nd.length, .slice (some ⟨h6, 0, none⟩) s.op.length s.op.length, .bool s.lg] 30) = W6 at *
  obtain ⟨x0, x1, x2, x3⟩ := cells3 H6.out.2.1
  obtain ⟨y0, y1, y2, y3⟩ := cells3 H6.out.2.2.1
  go_wp2_with fail
  clear hW6
  refine (toBuild_at t b q d d' _ H6.out.2.2.2.2 hm).mono ?_
  rintro e w7 ⟨g7, h7, rfl, t7, hb7⟩
  have N7 := below_new w7 (.cells #[.slice (some ⟨g7, 0, none⟩) t.nd.length t.nd.length, .slice (some ⟨h7, 0, none⟩) t.op.length t.op.length, .bool t.lg] 30)
  have H7 := Hid.mk' ((H6.out.below hb7).below N7)
  have T7 := Hid.mk' (t7.below N7)
  have U7 := Hid.mk' ((T6.out.below hb7).below N7)
  have Q7 := Hid.mk' (row3 w7 30 (.slice (some ⟨g7, 0, none⟩) t.nd.length t.nd.length) (.slice (some ⟨h7, 0, none⟩) t.op.length t.op.length) (.bool t.lg))
  have P7 := Hid.mk' (rowB (rowB Q6.out hb7) N7)
  clear H6 T6 Q6 hb7 t7 N7 x0 x1 x2 x3 y0 y1 y2 y3
  generalize hW7 : w7.alloc (.cells #[.slice (some ⟨g7, 0, none⟩) t.nd.length t.nd.length, .slice (some ⟨h7, 0, none⟩) t.op.length t.op.length, .bool t.lg] 30) = W7 at *
  obtain ⟨x0, x1, x2, x3⟩ := cells3 P7.out
  obtain ⟨y0, y1, y2, y3⟩ := cells3 Q7.out
  go_wp2_with fail
  clear hW7
  refine (implSB_any s t _ _ _ _ _ _ _ _ _ U7.out.1 T7.out.1 U7.out.2 T7.out.2 hl hm).mono ?_
  rintro e w8 ⟨rfl, hb8⟩
  have H8 := Hid.mk' (H7.out.below hb8)
  have T8 := Hid.mk' (T7.out.below hb8)
  have U8 := Hid.mk' (U7.out.below hb8)
  have Q8 := Hid.mk' (rowB Q7.out hb8)
  have P8 := Hid.mk' (rowB P7.out hb8)
  clear H7 T7 U7 Q7 P7 hb8 x0 x1 x2 x3 y0 y1 y2 y3
  generalize sameS s t = sm at *
  obtain ⟨x0, x1, x2, x3⟩ := cells3 H8.out.2.1
  obtain ⟨p0, p1, p2_, p3⟩ := cells3 P8.out
  have AA := Hid.mk' (H8.out.2.2.2.1)
  go_wp2
  go_region_held3 (fun w' => w'.cell? ⟨w.heap.size, 0, none⟩ = some (.slice a s.nd.length c) ∧ w'.cell? ⟨w.heap.size, 1, none⟩ = some (.slice p s.op.length c') ∧ w'.cell? ⟨w.heap.size, 2, none⟩ = some (.bool s.lg) ∧ w'.cell? ⟨w6.heap.size, 0, none⟩ = some (.slice (some ⟨g6, 0, none⟩) s.nd.length s.nd.length) ∧ w'.cell? ⟨w6.heap.size, 1, none⟩ = some (.slice (some ⟨h6, 0, none⟩) s.op.length s.op.length) ∧ w'.cell? ⟨w6.heap.size, 2, none⟩ = some (.bool s.lg)) (simp [*])
    (first | (go_at_call 7; refine (toBuild_at s a p c c' _ (AA.out.below (Below.refl _ _).drew) hl).mono ?_; rintro e w9 ⟨g9, h9, rfl, t9, hb9⟩; replace hb9 := undrew hb9; obtain ⟨hx1, hx2⟩ := bcell hb9; have z1 := hb9.size; have z2 : w.heap.size < w9.heap.size := (by omega); have z3 : w6.heap.size < w9.heap.size := (by omega)) | (go_at_call 9; refine (eqBuild_any s _ _ _ _ _ _ _ _ _ (U8.out.below hb9).1 t9.1 (U8.out.below hb9).2 t9.2 hl).mono ?_; rintro e wA ⟨rfl, hbA⟩; obtain ⟨hx3, hx4⟩ := bcell hbA))
  have HA := Hid.mk' ((H8.out.below hb9).below hbA)
  have TA := Hid.mk' ((T8.out.below hb9).below hbA)
  have QA := Hid.mk' (rowB (rowB Q8.out hb9) hbA)
  clear hx1 hx2 hx3 hx4 z1 z2 z3 hb9 hbA t9 H8 T8 U8 P8 Q8 x0 x1 x2 x3 p0 p1 p2_ p3 AA
  obtain ⟨y0, y1, y2, y3⟩ := cells3 HA.out.2.2.1
  obtain ⟨q0, q1, q2, q3⟩ := cells3 QA.out
  have AB := Hid.mk' (HA.out.2.2.2.2)
  go_wp2
  go_region_held3 (fun w' => w'.cell? ⟨w.heap.size + 1, 0, none⟩ = some (.slice b t.nd.length d) ∧ w'.cell? ⟨w.heap.size + 1, 1, none⟩ = some (.slice q t.op.length d') ∧ w'.cell? ⟨w.heap.size + 1, 2, none⟩ = some (.bool t.lg) ∧ w'.cell? ⟨w7.heap.size, 0, none⟩ = some (.slice (some ⟨g7, 0, none⟩) t.nd.length t.nd.length) ∧ w'.cell? ⟨w7.heap.size, 1, none⟩ = some (.slice (some ⟨h7, 0, none⟩) t.op.length t.op.length) ∧ w'.cell? ⟨w7.heap.size, 2, none⟩ = some (.bool t.lg)) (simp [*])
    (first | (go_at_call 7; refine (toBuild_at t b q d d' _ (AB.out.below (Below.refl _ _).drew) hm).mono ?_; rintro e w9 ⟨g9, h9, rfl, t9, hb9⟩; replace hb9 := undrew hb9; obtain ⟨hx1, hx2⟩ := bcell hb9; have z1 := hb9.size; have z2 : w.heap.size + 1 < w9.heap.size := (by omega); have z3 : w7.heap.size < w9.heap.size := (by omega)) | (go_at_call 9; refine (eqBuild_any t _ _ _ _ _ _ _ _ _ (TA.out.below hb9).1 t9.1 (TA.out.below hb9).2 t9.2 hm).mono ?_; rintro e wB ⟨rfl, hbB⟩; obtain ⟨hx3, hx4⟩ := bcell hbB))
  have HB := Hid.mk' ((HA.out.below hb9).below hbB)
  clear hx1 hx2 hx3 hx4 z1 z2 z3 hb9 hbB t9 HA TA QA y0 y1 y2 y3 q0 q1 q2 q3 AB
  go_wp2
  go_ret
  exact ⟨rfl, HB.out.1⟩

end Go.Proofs.Ytpncbcmngfpkfaa

/- From the reading of an argument to tokens that lie in memory. -/
namespace Go.Proofs.Ytpncbcmngfpkfaa
open Go.ChangeShapes Go.WideShapes Go.ChangeAt Go.RowKit Go.Deep
set_option linter.unusedVariables false

theorem own : ownKnob Try.prog.godebug = none := by kernel_rfl

theorem laidOut : laidOutB Try.prog = true := by kernel_rfl

theorem Try.cells5 : Try.prog.cellsOf 5 = 1 := by kernel_rfl

theorem Try.cells4 : Try.prog.cellsOf 4 = 1 := by kernel_rfl

theorem Try.cells2 : Try.prog.cellsOf 2 = 1 := by kernel_rfl

theorem Try.cells9 : Try.prog.cellsOf 9 = 1 := by kernel_rfl

theorem Try.cells91 : Try.prog.cellsOf 91 = 2 := by kernel_rfl

theorem Try.cells52 : Try.prog.cellsOf 52 = 1 := by kernel_rfl

theorem Try.cells51 : Try.prog.cellsOf 51 = 1 := by kernel_rfl

theorem cell_lt {w : World} {a : Addr} {v : Value} (h : w.cell? a = some v) : a.block < w.heap.size := by
  unfold World.cell? at h
  by_cases hb : a.block < w.heap.size
  · exact hb
  · rw [Array.getElem?_eq_none (by omega)] at h
    simp at h

/-- An address at which cells lie is plain. -/
theorem plain_addr {w : World} {a : Addr} {v : Value} (h : w.cell? a = some v) : ∃ b o, a = ⟨b, o, none⟩ := by
  obtain ⟨b, o, s⟩ := a
  have hs := World.cell?_spot h
  simp at hs
  subst hs
  exact ⟨b, o, rfl⟩

theorem open_bytes {H : Type} {enc : TypeId × Value → H} {W : World} {spare : Nat → Bool} {held : Bool} {fuel : Nat} {v : Value} {x : DataW H × List MemPlace} (h : DataW.trod enc Try.prog W 0 spare held fuel 52 [v] = some x) :
    ∃ a c l, v = .slice a l.length c ∧ BAt W a l ∧ (l.length : Int) ≤ 9223372036854775807 ∧ ∀ k, k < l.length → 0 ≤ l.getD k 0 ∧ l.getD k 0 ≤ 255 := by
  rcases open_ints Try.underlying52 Try.underlying5 Try.cells5 h with ⟨hcs, _⟩ | ⟨a, len, cap, zs, hcs, _, hl, hm, hz, _, hcell, hwz⟩
  · simp at hcs
    subst hcs
    exact ⟨none, 0, [], rfl, .inl rfl, by simp, by simp⟩
  · simp at hcs
    subst hcs
    have hlz : len ≤ zs.length := by rw [hz]; split <;> omega
    have hlen : (zs.take len).length = len := by rw [List.length_take]; omega
    unfold maxLen at hm
    refine ⟨some a, cap, zs.take len, by rw [hlen], ?_, by rw [hlen]; omega, fun k hk => ?_⟩
    · by_cases h0 : len = 0
      · left; subst h0; simp
      · right
        have c0 := hcell 0 (by omega)
        have e0 : a.add 0 = a := by unfold Addr.add; split <;> simp_all
        rw [e0] at c0
        obtain ⟨b, o, rfl⟩ := plain_addr c0
        refine ⟨b, o, rfl, cell_lt c0, fun k hk => ?_⟩
        rw [hlen] at hk
        have ck := hcell k (by omega)
        rw [Addr.add_mid] at ck
        rw [ck]
        unfold bv
        congr 2
        simp [hk]
    · rw [hlen] at hk
      have e : (zs.take len).getD k 0 = zs[k]'(by omega) := by simp [hk, show k < zs.length from by omega]
      rw [e]
      exact bounds_u8 (hwz _ (List.getElem_mem _))

set_option maxRecDepth 100000 in
theorem open_attrs {H : Type} {enc : TypeId × Value → H} {W : World} {spare : Nat → Bool} {held : Bool} {fuel : Nat} {v : Value} {x : DataW H × List MemPlace} (h : DataW.trod enc Try.prog W 0 spare held fuel 51 [v] = some x) :
    ∃ a c l, v = .slice a l.length c ∧ AAt W a l ∧ (l.length : Int) ≤ 9223372036854775807 ∧ Wide l := by
  rcases Deep.open_slice Try.underlying51 h with ⟨hcs, _⟩ | ⟨a, len, cap, m, n, D, Pl, hcs, _, hl, hm, hmm, _, hx⟩
  · simp at hcs
    subst hcs
    exact ⟨none, 0, [], rfl, .inl rfl, by simp, fun k hk => absurd hk (Nat.not_lt_zero _)⟩
  · simp at hcs
    subst hcs
    have hlm : len ≤ m := by rw [hmm]; split <;> omega
    have each : ∀ i, i < len → ∃ p : AT, W.cell? (a.add (i * 2)) = some (.string p.nm) ∧ (∃ q c, W.cell? (a.add (i * 2 + 1)) = some (.slice q p.vl.length c) ∧ BAt W q p.vl) ∧ (p.nm.size : Int) ≤ 9223372036854775807 ∧ (p.vl.length : Int) ≤ 9223372036854775807 := by
      intro i hi
      obtain ⟨cs', h1, h2⟩ := hx i (by omega)
      rw [Try.cells91] at h1
      obtain ⟨_, hlen, hcell⟩ := World.cells?_some h1
      obtain ⟨y0, y1, n', _, _, t0, t1⟩ := trod_struct2 Try.underlying91 h2
      match cs', hlen with
      | [u0, u1], _ =>
        simp [Try.cells9, Try.cells52] at t0 t1
        obtain ⟨s, e0, _, ws⟩ := DataW.trod_string Try.underlying9 t0
        obtain ⟨q, c, l, rfl, hb, hm2, _⟩ := open_bytes t1
        simp at e0
        subst e0
        have q0 := hcell 0 (by omega)
        have q1 := hcell 1 (by omega)
        rw [Deep.add_add] at q0 q1
        exact ⟨⟨s, l⟩, by simpa using q0, ⟨q, c, by simpa using q1, hb⟩, by unfold maxLen at ws; show (s.size : Int) ≤ 9223372036854775807; omega, hm2⟩
    obtain ⟨q, hq⟩ := @Deep.choose_lt AT ⟨⟨⟨#[]⟩, []⟩⟩ _ _ each
    have hlen : ((List.range len).map q).length = len := by simp
    have hpc : ∀ k, k < len → atK ((List.range len).map q) k = q k := fun k hk => by unfold atK; simp [hk]
    unfold maxLen at hm
    refine ⟨some a, cap, (List.range len).map q, by rw [hlen], ?_, by rw [hlen]; omega, fun k hk => ?_⟩
    · by_cases h0 : len = 0
      · left; subst h0; simp
      · right
        have c0 := (hq 0 (by omega)).1
        have e0 : a.add (0 * 2) = a := by unfold Addr.add; split <;> simp_all
        rw [e0] at c0
        obtain ⟨b, o, rfl⟩ := plain_addr c0
        refine ⟨b, o, rfl, cell_lt c0, fun k hk => ?_⟩
        rw [hlen] at hk
        obtain ⟨k0, ⟨p, c, k1, k2⟩, _⟩ := hq k hk
        rw [Addr.add_mid] at k0 k1
        rw [hpc k hk]
        exact ⟨k0, p, c, k1, k2⟩
    · rw [hlen] at hk
      rw [hpc k hk]
      exact (hq k hk).2.2

theorem array5 {α : Type} {cs : Array α} (h : cs.size = 5) : ∃ c0 c1 c2 c3 c4, cs = #[c0, c1, c2, c3, c4] := by
  obtain ⟨l⟩ := cs
  match l, h with
  | [c0, c1, c2, c3, c4], _ => exact ⟨c0, c1, c2, c3, c4, rfl⟩

end Go.Proofs.Ytpncbcmngfpkfaa

/- From the reading of an argument to lists of nodes that lie in memory. -/
namespace Go.Proofs.Ytpncbcmngfpkfaa
open Go.ChangeShapes Go.WideShapes Go.ChangeAt Go.RowKit Go.Deep
set_option linter.unusedVariables false
set_option linter.constructorNameAsVariable false
set_option maxRecDepth 100000

theorem Try.cells54 : Try.prog.cellsOf 54 = 4 := by kernel_rfl

theorem slice_cap {H : Type} {enc : TypeId × Value → H} {W : World} {spare : Nat → Bool} {held : Bool} {fuel : Nat} {t e : TypeId} (ht : Try.prog.underlying t = some (.slice e)) {a : Option Addr} {n c : Nat} {x : DataW H × List MemPlace} (h : DataW.trod enc Try.prog W 0 spare held fuel t [.slice a n c] = some x) : n ≤ c := by
  rcases Deep.open_slice ht h with ⟨hcs, _⟩ | ⟨a', len, cap, m, n', D, Pl, hcs, _, hl, _⟩
  · simp at hcs; omega
  · simp at hcs; omega

theorem open_nodes {H : Type} {enc : TypeId × Value → H} {W : World} {spare : Nat → Bool} {held : Bool} {fuel : Nat} {v : Value} {x : DataW H × List MemPlace} (h : DataW.trod enc Try.prog W 0 spare held fuel 22 [v] = some x) :
    ∃ a c l, v = .slice a l.length c ∧ NsAt W a l ∧ WideN l ∧ (l.length : Int) ≤ 9223372036854775807 := by
  rcases Deep.open_slice Try.underlying22 h with ⟨hcs, _⟩ | ⟨a, len, cap, m, n, D, Pl, hcs, _, hl, hm, hmm, _, hx⟩
  · simp at hcs
    subst hcs
    exact ⟨none, 0, [], rfl, .inl rfl, fun k hk => absurd hk (Nat.not_lt_zero _), by simp⟩
  · simp at hcs
    subst hcs
    have hlm : len ≤ m := by rw [hmm]; split <;> omega
    have each : ∀ i, i < len → ∃ t : ND, W.cell? (a.add (i * 4)) = some (.int .i64 t.up) ∧ W.cell? (a.add (i * 4 + 1)) = some (.string t.tg) ∧ (∃ q c, W.cell? (a.add (i * 4 + 2)) = some (.slice q t.at_.length c) ∧ t.at_.length ≤ c ∧ AAt W q t.at_) ∧ (∃ q c, W.cell? (a.add (i * 4 + 3)) = some (.slice q t.tx.length c) ∧ BAt W q t.tx) ∧ Wide t.at_ ∧ (t.tg.size : Int) ≤ 9223372036854775807 ∧ (t.at_.length : Int) ≤ 9223372036854775807 ∧ (t.tx.length : Int) ≤ 9223372036854775807 := by
      intro i hi
      obtain ⟨cs', h1, h2⟩ := hx i (by omega)
      rw [Try.cells54] at h1
      obtain ⟨_, hlen, hcell⟩ := World.cells?_some h1
      obtain ⟨xs, n', _, _, hl', hlen', hfs⟩ := DataW.trod_struct Try.underlying54 h2
      match cs', hlen with
      | [u0, u1, u2, u3], _ =>
      match xs, hlen' with
      | [z0, z1, z2, z3], _ =>
        have t0 := hfs 0 _ rfl
        have t1 := hfs 1 _ rfl
        have t2 := hfs 2 _ rfl
        have t3 := hfs 3 _ rfl
        simp [Try.cells2, Try.cells9, Try.cells52, Try.cells51] at t0 t1 t2 t3
        obtain ⟨up, e0, _, _⟩ := DataW.trod_int Try.underlying2 t0
        obtain ⟨tg, e1, _, ws⟩ := DataW.trod_string Try.underlying9 t1
        obtain ⟨q, c, l, rfl, ha, hll, hw⟩ := open_attrs t2
        have hcap := slice_cap Try.underlying51 t2
        obtain ⟨q', c', l', rfl, hb, hm2, _⟩ := open_bytes t3
        simp at e0 e1
        subst e0 e1
        have q0 := hcell 0 (by omega)
        have q1 := hcell 1 (by omega)
        have q2 := hcell 2 (by omega)
        have q3 := hcell 3 (by omega)
        rw [Deep.add_add] at q0 q1 q2 q3
        exact ⟨⟨up, tg, l, l'⟩, by simpa using q0, by simpa using q1, ⟨q, c, by simpa using q2, hcap, ha⟩, ⟨q', c', by simpa using q3, hb⟩, hw, by unfold maxLen at ws; show (tg.size : Int) ≤ 9223372036854775807; omega, hll, hm2⟩
    obtain ⟨q, hq⟩ := @Deep.choose_lt ND ⟨⟨0, ⟨#[]⟩, [], []⟩⟩ _ _ each
    have hlen : ((List.range len).map q).length = len := by simp
    have hpc : ∀ k, k < len → ndK ((List.range len).map q) k = q k := fun k hk => by unfold ndK; simp [hk]
    unfold maxLen at hm
    refine ⟨some a, cap, (List.range len).map q, by rw [hlen], ?_, fun k hk => ?_, by rw [hlen]; omega⟩
    · by_cases h0 : len = 0
      · left; subst h0; simp
      · right
        have c0 := (hq 0 (by omega)).1
        have e0 : a.add (0 * 4) = a := by unfold Addr.add; split <;> simp_all
        rw [e0] at c0
        obtain ⟨b, o, rfl⟩ := plain_addr c0
        refine ⟨b, o, rfl, cell_lt c0, fun k hk => ?_⟩
        rw [hlen] at hk
        obtain ⟨k0, k1, ⟨p, c, k2, k3, k4⟩, ⟨p', c', k5, k6⟩, _⟩ := hq k hk
        rw [Addr.add_mid] at k0 k1 k2 k5
        rw [hpc k hk]
        exact ⟨k0, k1, ⟨p, c, k2, k3, k4⟩, ⟨p', c', k5, k6⟩⟩
    · rw [hlen] at hk
      rw [hpc k hk]
      exact (hq k hk).2.2.2.2

/-- What a law is told of a list of nodes that came in. -/
theorem open_nodesV {H : Type} {enc : TypeId × Value → H} {W : World} {base : Nat} {spare : Nat → Bool} {held : Bool} {v : Value} {d : DataW H} {p : List MemPlace}
    (hv : Value.okWide Try.prog W .any base 22 v) (h : DataW.Trod enc Try.prog W 0 spare held 22 v d p) :
    ∃ a c l, v = .slice a l.length c ∧ NsAt W a l ∧ WideN l ∧ (l.length : Int) ≤ 9223372036854775807 := by
  obtain ⟨a0, len, cap, rfl⟩ := okWide_slice Try.underlying22 hv
  obtain ⟨fuel, hf⟩ := h
  exact open_nodes (by simpa [Value.cells] using hf)

end Go.Proofs.Ytpncbcmngfpkfaa

/- From the reading of an argument to a state of a builder that lies in memory. -/
namespace Go.Proofs.Ytpncbcmngfpkfaa
open Go.ChangeShapes Go.WideShapes Go.ChangeAt Go.RowKit Go.Deep
set_option linter.unusedVariables false
set_option linter.constructorNameAsVariable false
set_option maxRecDepth 100000

theorem Try.cells25 : Try.prog.cellsOf 25 = 3 := by kernel_rfl

theorem Try.cells22 : Try.prog.cellsOf 22 = 1 := by kernel_rfl

theorem Try.cells23 : Try.prog.cellsOf 23 = 1 := by kernel_rfl

theorem open_i64s {H : Type} {enc : TypeId × Value → H} {W : World} {spare : Nat → Bool} {held : Bool} {fuel : Nat} {v : Value} {x : DataW H × List MemPlace} (h : DataW.trod enc Try.prog W 0 spare held fuel 23 [v] = some x) :
    ∃ a c l, v = .slice a l.length c ∧ IAt W a l ∧ (l.length : Int) ≤ 9223372036854775807 := by
  rcases open_ints Try.underlying23 Try.underlying2 Try.cells2 h with ⟨hcs, _⟩ | ⟨a, len, cap, zs, hcs, _, hl, hm, hz, _, hcell, hwz⟩
  · simp at hcs
    subst hcs
    exact ⟨none, 0, [], rfl, .inl rfl, by simp⟩
  · simp at hcs
    subst hcs
    have hlz : len ≤ zs.length := by rw [hz]; split <;> omega
    have hlen : (zs.take len).length = len := by rw [List.length_take]; omega
    unfold maxLen at hm
    refine ⟨some a, cap, zs.take len, by rw [hlen], ?_, by rw [hlen]; omega⟩
    by_cases h0 : len = 0
    · left; subst h0; simp
    · right
      have c0 := hcell 0 (by omega)
      have e0 : a.add 0 = a := by unfold Addr.add; split <;> simp_all
      rw [e0] at c0
      obtain ⟨b, o, rfl⟩ := plain_addr c0
      refine ⟨b, o, rfl, cell_lt c0, fun k hk => ?_⟩
      rw [hlen] at hk
      have ck := hcell k (by omega)
      rw [Addr.add_mid] at ck
      rw [ck]
      unfold wv
      congr 2
      simp [hk]

/-- What a law is told of a state that came in. -/
theorem open_build {H : Type} {enc : TypeId × Value → H} {W : World} {base : Nat} {spare : Nat → Bool} {held : Bool} {v : Value} {d : DataW H} {p : List MemPlace}
    (hv : Value.okWide Try.prog W .any base 25 v) (h : DataW.Trod enc Try.prog W 0 spare held 25 v d p) :
    ∃ s a q c c', v = .agg #[.slice a s.nd.length c, .slice q s.op.length c', .bool s.lg] ∧ SAt W a q s ∧ WideN s.nd ∧ (s.nd.length : Int) ≤ 9223372036854775807 ∧ (s.op.length : Int) ≤ 9223372036854775807 := by
  obtain ⟨cs, rfl, hsz⟩ := okWide_struct Try.underlying25 hv
  obtain ⟨fuel, hf⟩ := h
  obtain ⟨xs, n, _, _, hl, hlen, hall⟩ := DataW.trod_struct Try.underlying25 hf
  have h0 := hall 0 _ rfl
  have h1 := hall 1 _ rfl
  have h2 := hall 2 _ rfl
  rw [Try.cells25] at hsz
  obtain ⟨l⟩ := cs
  match l, hsz, xs, hlen with
  | [c0, c1, c2], _, [y0, y1, y2], _ =>
    simp [Try.cells22, Try.cells23, Try.cells4, Value.cells] at h0 h1 h2
    obtain ⟨a, c, l, rfl, hb, hw, hm⟩ := open_nodes h0
    obtain ⟨q, c', o, rfl, hq, hm2⟩ := open_i64s h1
    obtain ⟨b, hb2, _⟩ := DataW.trod_bool Try.underlying4 h2
    simp at hb2
    subst hb2
    exact ⟨⟨l, o, b⟩, a, q, c, c', rfl, ⟨hb, hq⟩, hw, hm, hm2⟩

end Go.Proofs.Ytpncbcmngfpkfaa
