/- Both sides' SameBuilds. -/
import Derived.Test.YtpncbcmngfpkfaaJa
import Derived.Test.YtpncbcmngfpkfaaGs
namespace Go.Proofs.Ytpncbcmngfpkfaa
open Go.RowKit
set_option linter.unusedVariables false
set_option linter.unusedSimpArgs false

def sameI (l m : List Int) : Bool := decide (l.length = m.length) && allK l.length (fun k => wv l k == wv m k)
def sameS (s t : BS) : Bool := sameNs s.nd t.nd && (sameI s.op t.op && (s.lg == t.lg))

set_option maxHeartbeats 1600000 in
theorem equalI_any (a b : Option Addr) (c d : Nat) (l m : List Int) (w : World) (ha : IAt w a l) (hb : IAt w b m) (hl : (l.length : Int) ≤ 1048576) (hm : (m.length : Int) ≤ 1048576) :
    Calls Try.prog 23 #[.slice a l.length c, .slice b m.length d] w fun e w' => e = .returned (.bool (sameI l m)) ∧ Below w.heap.size w w' := by
  have HA := Hid.mk' ha
  have HB := Hid.mk' hb
  clear ha hb
  by_cases hq : l.length = m.length
  rotate_left
  · have E : Hid (sameI l m = false) := Hid.mk' (by unfold sameI; rw [decide_eq_false hq]; rfl)
    have hq' : ¬ (l.length : Int) = m.length := by omega
    go_enter Try.func23, Try.ntmps23
    go_wp2
    go_ret
    exact ⟨by rw [E.out]; rfl, Below.refl _ _⟩
  have Q := Hid.mk' hq
  have hq' : (l.length : Int) = m.length := by omega
  clear hq
  go_enter Try.func23, Try.ntmps23
  go_wp2
  go_loopw [13] (fun i wr => ∃ k : Nat, k ≤ l.length ∧ i = .int .i64 k ∧ (∀ j, j < k → (wv l j == wv m j) = true) ∧ Below w.heap.size w wr) (fun i _ => l.length - (intOf i).toNat)
  case atStart => exact ⟨0, Nat.zero_le _, rfl, fun j h => absurd h (Nat.not_lt_zero _), Below.refl _ _⟩
  case round =>
    obtain ⟨k, hk, rfl, hn, hbl⟩ := hrel
    have HN := Hid.mk' hn
    have R2 := Hid.mk' hbl
    by_cases hlt : k < l.length
    · have ci : (k : Int) < (l.length : Int) := by omega
      have ci2 : (k : Int) < (m.length : Int) := by omega
      rcases HA.out.below hbl with ha | ⟨b1, o1, rfl, s1, hc1⟩
      · exact absurd hlt (by rw [ha]; exact Nat.not_lt_zero _)
      rcases HB.out.below hbl with hb | ⟨b2, o2, rfl, s2, hc2⟩
      · exact absurd hlt (by rw [Q.out, hb]; exact Nat.not_lt_zero _)
      have x0 := hc1 k hlt
      have y0 := hc2 k (by omega)
      clear hbl hc1 hc2 hn
      generalize hx : wv l k = X at *
      generalize hy : wv m k = Y at *
      by_cases e1 : X = Y
      · have e2 : (X != Y) = false := by simp [e1]
        have E1 : Hid ((wv l k == wv m k) = true) := Hid.mk' (by rw [hx, hy]; simp [e1])
        clear e1 hx hy
        go_wp2
        go_quiet (fail)
        go_wp2
        go_roundw
        case rel => exact ⟨k + 1, by omega, by go_num, fun j hj => by
          by_cases h : j = k
          · subst h; exact E1.out
          · exact HN.out j (by omega), below_drewN R2.out _⟩
        case measure => simp [intOf]; omega
      · have e2 : (X != Y) = true := by simp [e1]
        have E : Hid (sameI l m = false) := Hid.mk' (by unfold sameI; rw [decide_eq_true Q.out, allK_false hlt (by rw [hx, hy]; simp [e1])]; rfl)
        clear e1 hx hy
        go_wp2
        go_quiet (fail)
        go_wp2
        go_ret
        exact ⟨by rw [E.out]; rfl, below_drewN R2.out _⟩
    · have ci : ¬ (k : Int) < (l.length : Int) := by omega
      have e : k = l.length := by omega
      subst e
      have E : Hid (sameI l m = true) := Hid.mk' (by unfold sameI; rw [decide_eq_true Q.out, allK_true HN.out]; rfl)
      clear hbl hn
      go_wp2
      go_ret
      exact ⟨by rw [E.out]; rfl, R2.out⟩

/-- Two states in their boxes. -/
theorem two_boxes (w : World) (T : TypeId) (x0 x1 x2 y0 y1 y2 : Value) :
    Below w.heap.size w ((w.alloc (.cells #[x0, x1, x2] T)).alloc (.cells #[y0, y1, y2] T)) ∧ ((w.alloc (.cells #[x0, x1, x2] T)).alloc (.cells #[y0, y1, y2] T)).rowIs w.heap.size T 3 (r3 x0 x1 x2) ∧ ((w.alloc (.cells #[x0, x1, x2] T)).alloc (.cells #[y0, y1, y2] T)).rowIs (w.heap.size + 1) T 3 (r3 y0 y1 y2) := by
  refine ⟨((Below.refl w.heap.size w).alloc (Nat.le_refl _) _).alloc (by simp) _, (row3 w T x0 x1 x2).alloc _, ?_⟩
  have := row3 (w.alloc (.cells #[x0, x1, x2] T)) T y0 y1 y2
  rw [show (w.alloc (.cells #[x0, x1, x2] T)).heap.size = w.heap.size + 1 from by simp] at this
  exact this

theorem frz3 {w : World} {g : Nat} {T : TypeId} {f : Nat → Value} (h : w.rowIs g T 3 f) : w.frozen? ⟨g, 0, none⟩ = false ∧ w.frozen? ⟨g, 1, none⟩ = false ∧ w.frozen? ⟨g, 2, none⟩ = false := ⟨h.frozen 0, h.frozen 1, h.frozen 2⟩

set_option maxHeartbeats 1600000 in
theorem implSB_any (s t : BS) (a b p q : Option Addr) (c d c' d' : Nat) (w : World) (ha : NsAt w a s.nd) (hb : NsAt w b t.nd) (hp : IAt w p s.op) (hq : IAt w q t.op) (hl : (s.nd.length : Int) + nssz s.nd + s.op.length ≤ 1048576) (hm : (t.nd.length : Int) + nssz t.nd + t.op.length ≤ 1048576) :
    Calls Try.prog 11 #[.agg #[.slice a s.nd.length c, .slice p s.op.length c', .bool s.lg], .agg #[.slice b t.nd.length d, .slice q t.op.length d', .bool t.lg]] w fun e w' => e = .returned (.bool (sameS s t)) ∧ Below w.heap.size w w' := by
  obtain ⟨B0, R1, R2⟩ := two_boxes w 30 (.slice a s.nd.length c) (.slice p s.op.length c') (.bool s.lg) (.slice b t.nd.length d) (.slice q t.op.length d') (.bool t.lg)
  have KN := Hid.mk' (implSameN_any a b c d s.nd t.nd _ (ha.below B0) (hb.below B0) (by omega) (by omega))
  have HX := Hid.mk' (hp.below B0)
  have HY := Hid.mk' (hq.below B0)
  have H1 := Hid.mk' R1
  have H2 := Hid.mk' R2
  have HB := Hid.mk' B0
  have E : Hid (sameS s t = (sameNs s.nd t.nd && (sameI s.op t.op && (s.lg == t.lg)))) := Hid.mk' rfl
  clear ha hb hp hq B0 R1 R2
  generalize hW : (w.alloc (.cells #[.slice a s.nd.length c, .slice p s.op.length c', .bool s.lg] 30)).alloc (.cells #[.slice b t.nd.length d, .slice q t.op.length d', .bool t.lg] 30) = W at *
  obtain ⟨x0, x1, x2, x3⟩ := cells3 H1.out
  obtain ⟨y0, y1, y2, y3⟩ := cells3 H2.out
  generalize hS : sameNs s.nd t.nd = S at *
  cases S with
  | false =>
    go_enter Try.func11, Try.ntmps11
    go_wp2_with fail
    clear hW
    refine KN.out.mono ?_
    rintro e w1 ⟨rfl, hb⟩
    have HB := Hid.mk' (HB.out.trans (hb.mono HB.out.size))
    clear hb KN
    go_wp2_with (first | go_big_skip)
    go_ret
    exact ⟨by rw [E.out]; rfl, HB.out⟩
  | true =>
    have KI : Hid (∀ w', Below W.heap.size W w' → Calls Try.prog 23 #[.slice p s.op.length c', .slice q t.op.length d'] w' fun e w'' => e = .returned (.bool (sameI s.op t.op)) ∧ Below w'.heap.size w' w'') := fun w' hb => equalI_any p q c' d' s.op t.op w' (HX.out.below hb) (HY.out.below hb) (by omega) (by omega)
    generalize hI : sameI s.op t.op = I at *
    go_enter Try.func11, Try.ntmps11
    go_wp2_with fail
    clear hW
    refine KN.out.mono ?_
    rintro e w1 ⟨rfl, hb⟩
    have KI := Hid.mk' (KI.out w1 hb)
    have HB := Hid.mk' (HB.out.trans (hb.mono HB.out.size))
    have H1 := Hid.mk' (rowB H1.out hb)
    have H2 := Hid.mk' (rowB H2.out hb)
    clear hb KN x0 x1 x2 x3 y0 y1 y2 y3
    obtain ⟨x0, x1, x2, x3⟩ := cells3 H1.out
    obtain ⟨y0, y1, y2, y3⟩ := cells3 H2.out
    go_wp2_with (first | go_big_skip | fail)
    refine KI.out.mono ?_
    rintro e w2 ⟨rfl, hb⟩
    have HB := Hid.mk' (HB.out.trans (hb.mono HB.out.size))
    have H1 := Hid.mk' (rowB H1.out hb)
    have H2 := Hid.mk' (rowB H2.out hb)
    clear hb KI x0 x1 x2 x3 y0 y1 y2 y3
    obtain ⟨x0, x1, x2, x3⟩ := cells3 H1.out
    obtain ⟨y0, y1, y2, y3⟩ := cells3 H2.out
    cases I with
    | false =>
      go_wp2_with (first | go_big_skip)
      go_ret
      exact ⟨by rw [E.out]; rfl, HB.out⟩
    | true =>
      go_wp2_with (first | go_big_skip)
      go_ret
      exact ⟨by rw [E.out]; first | rfl | simp, HB.out⟩

set_option maxHeartbeats 3200000 in
theorem specSB_any (s t : BS) (a b p q : Option Addr) (c d c' d' : Nat) (w : World) (ha : NsAt w a s.nd) (hb : NsAt w b t.nd) (hp : IAt w p s.op) (hq : IAt w q t.op) (hl : (s.nd.length : Int) + nssz s.nd + s.op.length ≤ 1048576) (hm : (t.nd.length : Int) + nssz t.nd + t.op.length ≤ 1048576) :
    Calls Try.prog 10 #[.agg #[.slice a s.nd.length c, .slice p s.op.length c', .bool s.lg], .agg #[.slice b t.nd.length d, .slice q t.op.length d', .bool t.lg]] w fun e w' => e = .returned (.bool (sameS s t)) ∧ Below w.heap.size w w' := by
  obtain ⟨B0, R1, R2⟩ := two_boxes w 30 (.slice a s.nd.length c) (.slice p s.op.length c') (.bool s.lg) (.slice b t.nd.length d) (.slice q t.op.length d') (.bool t.lg)
  have KN := Hid.mk' (specSameN_any a b c d s.nd t.nd _ (ha.below B0) (hb.below B0) (by omega) (by omega))
  have HX := Hid.mk' (hp.below B0)
  have HY := Hid.mk' (hq.below B0)
  have H1 := Hid.mk' R1
  have H2 := Hid.mk' R2
  have HB := Hid.mk' B0
  have E : Hid (sameS s t = (sameNs s.nd t.nd && (sameI s.op t.op && (s.lg == t.lg)))) := Hid.mk' rfl
  clear ha hb hp hq B0 R1 R2
  generalize hW : (w.alloc (.cells #[.slice a s.nd.length c, .slice p s.op.length c', .bool s.lg] 30)).alloc (.cells #[.slice b t.nd.length d, .slice q t.op.length d', .bool t.lg] 30) = W at *
  obtain ⟨x0, x1, x2, x3⟩ := cells3 H1.out
  obtain ⟨y0, y1, y2, y3⟩ := cells3 H2.out
  by_cases hlg : s.lg = t.lg
  rotate_left
  · have hb1 : (s.lg == t.lg) = false := by simp [hlg]
    have E9 : Hid (sameS s t = false) := Hid.mk' (by rw [E.out]; simp [hlg])
    clear hlg
    go_enter Try.func10, Try.ntmps10
    go_wp2_with (first | go_big_skip)
    clear hW
    go_ret
    exact ⟨by rw [E9.out]; rfl, HB.out⟩
  have hb1 : (s.lg == t.lg) = true := by simp [hlg]
  have L := Hid.mk' hlg
  clear hlg
  by_cases hq : s.op.length = t.op.length
  rotate_left
  · have E9 : Hid (sameS s t = false) := Hid.mk' (by rw [E.out]; unfold sameI; rw [decide_eq_false hq]; simp)
    have hq' : ¬ (s.op.length : Int) = t.op.length := by omega
    clear hq
    go_enter Try.func10, Try.ntmps10
    go_wp2_with (first | go_big_skip)
    clear hW
    go_ret
    exact ⟨by rw [E9.out]; rfl, HB.out⟩
  have Q := Hid.mk' hq
  have hq' : (s.op.length : Int) = t.op.length := by omega
  clear hq
  generalize hS : sameNs s.nd t.nd = S at *
  cases S with
  | false =>
    go_enter Try.func10, Try.ntmps10
    go_wp2_with (first | go_big_skip | fail)
    clear hW
    refine KN.out.mono ?_
    rintro e w1 ⟨rfl, hb⟩
    have HB := Hid.mk' (HB.out.trans (hb.mono HB.out.size))
    clear hb KN
    go_wp2_with (first | go_big_skip)
    go_ret
    exact ⟨by rw [E.out]; rfl, HB.out⟩
  | true =>
    go_enter Try.func10, Try.ntmps10
    go_wp2_with (first | go_big_skip | fail)
    clear hW
    refine KN.out.mono ?_
    rintro e w1 ⟨rfl, hb⟩
    have HX := Hid.mk' (HX.out.below hb)
    have HY := Hid.mk' (HY.out.below hb)
    have HB := Hid.mk' (HB.out.trans (hb.mono HB.out.size))
    have H1 := Hid.mk' (rowB H1.out hb)
    have H2 := Hid.mk' (rowB H2.out hb)
    clear hb KN x0 x1 x2 x3 y0 y1 y2 y3
    go_wp2_with (first | go_big_skip)
    go_loopw [5] (fun i wr => ∃ k : Nat, k ≤ s.op.length ∧ i = .int .i64 k ∧ (∀ j, j < k → (wv s.op j == wv t.op j) = true) ∧ Below w1.heap.size w1 wr) (fun i _ => s.op.length - (intOf i).toNat)
    case atStart => exact ⟨0, Nat.zero_le _, rfl, fun j h => absurd h (Nat.not_lt_zero _), Below.refl _ _⟩
    case round =>
      obtain ⟨k, hk, rfl, hn, hbl⟩ := hrel
      have HN := Hid.mk' hn
      have R2 := Hid.mk' (HB.out.trans (hbl.mono HB.out.size))
      have R3 := Hid.mk' hbl
      have H1 := Hid.mk' (rowB H1.out hbl)
      have H2 := Hid.mk' (rowB H2.out hbl)
      obtain ⟨x0, x1, x2, x3⟩ := cells3 H1.out
      obtain ⟨y0, y1, y2, y3⟩ := cells3 H2.out
      by_cases hlt : k < s.op.length
      · have ci : (k : Int) < (s.op.length : Int) := by omega
        have ci2 : (k : Int) < (t.op.length : Int) := by omega
        rcases HX.out.below hbl with ha | ⟨b1, o1, rfl, s1, hc1⟩
        · exact absurd hlt (by rw [ha]; exact Nat.not_lt_zero _)
        rcases HY.out.below hbl with hb | ⟨b2, o2, rfl, s2, hc2⟩
        · exact absurd hlt (by rw [Q.out, hb]; exact Nat.not_lt_zero _)
        have u0 := hc1 k hlt
        have v0 := hc2 k (by omega)
        clear hbl hc1 hc2 hn
        generalize hx : wv s.op k = X at *
        generalize hy : wv t.op k = Y at *
        by_cases e1 : X = Y
        · have e2 : (X != Y) = false := by simp [e1]
          have E1 : Hid ((wv s.op k == wv t.op k) = true) := Hid.mk' (by rw [hx, hy]; simp [e1])
          clear e1 hx hy
          go_wp2
          go_quiet (fail)
          go_wp2
          go_roundw
          case rel => exact ⟨k + 1, by omega, by go_num, fun j hj => by
            by_cases h : j = k
            · subst h; exact E1.out
            · exact HN.out j (by omega), below_drewN R3.out _⟩
          case measure => simp [intOf]; omega
        · have e2 : (X != Y) = true := by simp [e1]
          have E9 : Hid (sameS s t = false) := Hid.mk' (by rw [E.out]; unfold sameI; rw [decide_eq_true Q.out, allK_false hlt (by rw [hx, hy]; simp [e1])]; rfl)
          clear e1 hx hy
          go_wp2
          go_quiet (fail)
          go_wp2
          go_ret
          exact ⟨by rw [E9.out]; rfl, below_drewN R2.out _⟩
      · have ci : ¬ (k : Int) < (s.op.length : Int) := by omega
        have e : k = s.op.length := by omega
        subst e
        have E9 : Hid (sameS s t = true) := Hid.mk' (by rw [E.out]; unfold sameI; rw [decide_eq_true Q.out, allK_true HN.out, L.out]; simp)
        clear hbl hn
        go_wp2
        go_ret
        exact ⟨by rw [E9.out]; rfl, R2.out⟩

end Go.Proofs.Ytpncbcmngfpkfaa
