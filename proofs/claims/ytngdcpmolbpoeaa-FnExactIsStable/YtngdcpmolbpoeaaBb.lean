/- Trees that stay as they are: the mathematics, and the model's side of IsStable. -/
import Derived.Test.YtngdcpmolbpoeaaGf
namespace Go.Proofs.Ytngdcpmolbpoeaa
open Go.RowKit
set_option linter.unusedVariables false
set_option linter.unusedSimpArgs false

/-- A place that is a p. -/
def isPa (l : List ND) (x : Int) : Bool := decide (0 ≤ x) && ((ndK l x.toNat).tg.toList == [112])

/-- One of the first d + 1 of a way is a p. -/
def inPW (l : List ND) (W : List Int) : Nat → Bool
  | 0 => isPa l (wv W 0)
  | d + 1 => isPa l (wv W (d + 1)) || inPW l W d

/-- The k-th is in a p. -/
def pU (l : List ND) (k : Nat) : Bool := inPW l (wayU (upF l) k) (depU (upF l) k)

/-- The k-th is an element that would not stay. -/
def badB (l : List ND) (k : Nat) : Bool := !((ndK l k).tg.toList == []) && (((ndK l k).tg.toList == [112]) && pU l k || decide (7 ≤ depU (upF l) k))

def okU (l : List ND) : Nat → Bool
  | 0 => true
  | k + 1 => okU l k && !badB l k

def stB (l : List ND) : Bool := decide (treeF l = 0) && okU l l.length

theorem okU_le {l : List ND} {k : Nat} : ∀ n, k < n → badB l k = true → okU l n = false
  | 0, h, _ => absurd h (Nat.not_lt_zero _)
  | n + 1, h, hb => by
    unfold okU
    by_cases e : k = n
    · subst e; rw [hb]; simp
    · rw [okU_le n (by omega) hb]; rfl

theorem isPa_nat (l : List ND) (m : Nat) : isPa l (m : Int) = ((ndK l m).tg.toList == [112]) := by
  unfold isPa; rw [decide_eq_true (Int.natCast_nonneg _), Bool.true_and, Int.toNat_natCast]

theorem inPW_pos {l : List ND} {W : List Int} {p : Nat} (h : 0 < p) : inPW l W p = (isPa l (wv W p) || inPW l W (p - 1)) := by
  obtain ⟨q, rfl⟩ : ∃ q, p = q + 1 := ⟨p - 1, by omega⟩
  rfl

set_option maxHeartbeats 800000 in
theorem l9InP_any (a : Option Addr) (c : Nat) (l : List ND) (k : Nat) (w : World) (ha : NsAt w a l) (hk : k < l.length) (hW : Ways l k) (hd : depU (upF l) k < (wayU (upF l) k).length) (hl : (l.length : Int) ≤ 1048576) :
    Calls Try.prog 25 #[.slice a l.length c, .int .i64 (ndK l k).up] w fun e w' => e = .returned (.bool (pU l k)) ∧ w' = w := by
  have G := hW.good
  have hat : wv (wayU (upF l) k) (depU (upF l) k) = (ndK l k).up := ixF_at hd
  rw [← hat]
  unfold pU
  obtain ⟨W, hWe⟩ : ∃ W, wayU (upF l) k = W := ⟨_, rfl⟩
  obtain ⟨d, hde⟩ : ∃ d, depU (upF l) k = d := ⟨_, rfl⟩
  rw [hWe] at G hat hd
  rw [hde] at hat hd
  rw [hde, hWe]
  have HG := Hid.mk' G
  have hle := G.le
  clear hWe hde G hW hat
  rcases ha with ha | ⟨b, o, rfl, hbs, hc⟩
  · rw [ha] at hk; exact absurd hk (Nat.not_lt_zero _)
  have HC := Hid.mk' hc
  clear hc
  go_enter Try.func25, Try.ntmps25
  go_wp2
  go_loop [1] (fun i => ∃ p : Nat, p ≤ d ∧ i = .int .i64 (wv W p) ∧ inPW l W d = inPW l W p) (fun i => (intOf i + 1).toNat)
  case atStart => exact ⟨d, Nat.le_refl _, rfl, rfl⟩
  case round =>
    obtain ⟨p, hp, rfl, hE⟩ := hrel
    have lo := HG.out.lo (i := p) (by omega)
    have hi := HG.out.hi (i := p) (by omega)
    have HE := Hid.mk' hE
    clear hE
    by_cases c1 : wv W p ≥ 0
    · have hp0 : 0 < p := by
        rcases Nat.eq_zero_or_pos p with h | h
        · subst h; rw [HG.out.hd] at c1; omega
        · exact h
      obtain ⟨h0, h1, h2⟩ := HG.out.ch (p - 1) (by omega)
      rw [show p - 1 + 1 = p by omega] at h0 h1 h2
      obtain ⟨m, hm⟩ : ∃ m : Nat, wv W p = (m : Int) := ⟨(wv W p).toNat, by omega⟩
      have HP : Hid (inPW l W p = (((ndK l m).tg.toList == [112]) || inPW l W (p - 1))) := Hid.mk' (by rw [inPW_pos hp0, hm, isPa_nat])
      rw [hm] at c1 hi h0 h1 h2 ⊢
      rw [Int.toNat_natCast] at h1
      have hml : m < l.length := by omega
      obtain ⟨q1, q2, _⟩ := HC.out m hml
      have ci : (m : Int) < (l.length : Int) := by omega
      have H2 := Hid.mk' h2
      have q1' : w.cell? ⟨b, o + m * 4, none⟩ = some (.int .i64 (wv W (p - 1))) := by rw [q1, h1]; rfl
      clear q1 h1 h2 lo hm
      cases ht : ((ndK l m).tg.toList == [112])
      · have E : Hid (inPW l W d = inPW l W (p - 1)) := Hid.mk' (by rw [HE.out, HP.out, ht]; rfl)
        go_wp2
        go_round
        case rel => exact ⟨p - 1, by omega, rfl, E.out⟩
        case measure =>
          have h1 := H2.out
          have h2 := HG.out.lo (i := p - 1) (by omega)
          simp only [intOf]; omega
      · have E : Hid (inPW l W d = true) := Hid.mk' (by rw [HE.out, HP.out, ht]; rfl)
        go_wp2
        go_ret
        exact ⟨by rw [E.out]; rfl, rfl⟩
    · have hp0 : p = 0 := by
        rcases Nat.eq_zero_or_pos p with h | h
        · exact h
        · exact absurd (HG.out.pos h (by omega)) c1
      subst hp0
      have E : Hid (inPW l W d = false) := Hid.mk' (by rw [HE.out]; show isPa l (wv W 0) = false; unfold isPa; rw [HG.out.hd]; rfl)
      go_wp2
      go_ret
      exact ⟨by rw [E.out]; rfl, rfl⟩

set_option maxHeartbeats 800000 in
theorem l9Under_any (a : Option Addr) (c : Nat) (l : List ND) (k : Nat) (w : World) (ha : NsAt w a l) (hk : k < l.length) (hW : Ways l k) (hd : depU (upF l) k < (wayU (upF l) k).length) (hl : (l.length : Int) ≤ 1048576) :
    Calls Try.prog 26 #[.slice a l.length c, .int .i64 (ndK l k).up] w fun e w' => e = .returned (.int .i64 (depU (upF l) k : Int)) ∧ w' = w := by
  have G := hW.good
  have hat : wv (wayU (upF l) k) (depU (upF l) k) = (ndK l k).up := ixF_at hd
  rw [← hat]
  obtain ⟨W, hWe⟩ : ∃ W, wayU (upF l) k = W := ⟨_, rfl⟩
  obtain ⟨d, hde⟩ : ∃ d, depU (upF l) k = d := ⟨_, rfl⟩
  rw [hWe] at G hat hd
  rw [hde] at hat hd
  rw [hde, hWe]
  have HG := Hid.mk' G
  have hle := G.le
  clear hWe hde G hW hat
  rcases ha with ha | ⟨b, o, rfl, hbs, hc⟩
  · rw [ha] at hk; exact absurd hk (Nat.not_lt_zero _)
  have HC := Hid.mk' hc
  clear hc
  go_enter Try.func26, Try.ntmps26
  go_wp2
  go_loop [1, 5] (fun i n => ∃ p : Nat, p ≤ d ∧ i = .int .i64 (wv W p) ∧ n = .int .i64 ((d - p : Nat) : Int)) (fun i _ => (intOf i + 1).toNat)
  case atStart => exact ⟨d, Nat.le_refl _, rfl, by simp⟩
  case round =>
    obtain ⟨p, hp, rfl, rfl⟩ := hrel
    have lo := HG.out.lo (i := p) (by omega)
    have hi := HG.out.hi (i := p) (by omega)
    by_cases c1 : wv W p ≥ 0
    · have hp0 : 0 < p := by
        rcases Nat.eq_zero_or_pos p with h | h
        · subst h; rw [HG.out.hd] at c1; omega
        · exact h
      obtain ⟨h0, h1, h2⟩ := HG.out.ch (p - 1) (by omega)
      rw [show p - 1 + 1 = p by omega] at h0 h1 h2
      obtain ⟨m, hm⟩ : ∃ m : Nat, wv W p = (m : Int) := ⟨(wv W p).toNat, by omega⟩
      rw [hm] at c1 hi h0 h1 h2 ⊢
      rw [Int.toNat_natCast] at h1
      have hml : m < l.length := by omega
      obtain ⟨q2, _⟩ := HC.out m hml
      have ci : (m : Int) < (l.length : Int) := by omega
      have H2 := Hid.mk' h2
      have q2' : w.cell? ⟨b, o + m * 4, none⟩ = some (.int .i64 (wv W (p - 1))) := by rw [q2, h1]; rfl
      clear q2 h1 h2 lo hm
      go_wp2
      go_round
      case rel => exact ⟨p - 1, by omega, rfl, by go_num⟩
      case measure =>
        have h1 := H2.out
        have h2 := HG.out.lo (i := p - 1) (by omega)
        simp only [intOf]; omega
    · have hp0 : p = 0 := by
        rcases Nat.eq_zero_or_pos p with h | h
        · exact h
        · exact absurd (HG.out.pos h (by omega)) c1
      subst hp0
      go_wp2
      go_ret
      exact ⟨rfl, rfl⟩

set_option maxHeartbeats 1600000 in
theorem l9Stable_any (a : Option Addr) (c : Nat) (l : List ND) (w : World) (ha : NsAt w a l) (h0 : treeF l = 0) (hl : (l.length : Int) + nssz l ≤ 1048576) :
    Calls Try.prog 15 #[.slice a l.length c] w fun e w' => e = .returned (.bool (okU l l.length)) ∧ w' = w := by
  have hWs := treeF_ways h0
  have KI : Hid (∀ k, k < l.length → Calls Try.prog 25 #[.slice a l.length c, .int .i64 (ndK l k).up] w fun e w' => e = .returned (.bool (pU l k)) ∧ w' = w) := fun k hk => l9InP_any a c l k w ha hk (hWs.mono (by omega)) (hWs k hk) (by omega)
  have KU : Hid (∀ k, k < l.length → Calls Try.prog 26 #[.slice a l.length c, .int .i64 (ndK l k).up] w fun e w' => e = .returned (.int .i64 (depU (upF l) k : Int)) ∧ w' = w) := fun k hk => l9Under_any a c l k w ha hk (hWs.mono (by omega)) (hWs k hk) (by omega)
  have HA := Hid.mk' ha
  clear ha h0 hWs
  go_enter Try.func15, Try.ntmps15
  go_wp2
  go_loop [3] (fun i => ∃ k : Nat, k ≤ l.length ∧ i = .int .i64 k ∧ okU l k = true) (fun i => l.length - (intOf i).toNat)
  case atStart => exact ⟨0, Nat.zero_le _, rfl, rfl⟩
  case round =>
    obtain ⟨k, hk, rfl, hok⟩ := hrel
    have HO := Hid.mk' hok
    clear hok
    by_cases hlt : k < l.length
    · have ci : (k : Int) < (l.length : Int) := by omega
      have K1 := KI.out k hlt
      have K2 := KU.out k hlt
      have HBd : Hid (badB l k = true → okU l l.length = false) := Hid.mk' (okU_le l.length hlt)
      have HNx : Hid (badB l k = false → okU l (k + 1) = true) := Hid.mk' (fun h => by show (okU l k && !badB l k) = true; rw [HO.out, h]; rfl)
      have hbd : badB l k = (!((ndK l k).tg.toList == []) && (((ndK l k).tg.toList == [112]) && pU l k || decide (7 ≤ depU (upF l) k))) := rfl
      rcases HA.out with ha | ⟨b, o, rfl, hbs, hc⟩
      · exact absurd hlt (by rw [ha]; exact Nat.not_lt_zero _)
      obtain ⟨q0, q1, _⟩ := hc k hlt
      clear hc
      cases t1 : ((ndK l k).tg.toList == [])
      · rw [t1] at hbd
        cases t2 : ((ndK l k).tg.toList == [112])
        · rw [t2] at hbd
          by_cases t4 : 7 ≤ depU (upF l) k
          · have E := Hid.mk' (HBd.out (by rw [hbd, decide_eq_true t4]; rfl))
            have d4 : (depU (upF l) k : Int) ≥ 7 := by omega
            replace K2 := Hid.mk' K2
            clear hbd K1 t4
            generalize depU (upF l) k = D at *
            go_wp2_with fail
            refine K2.out.mono ?_
            rintro e w1 ⟨rfl, hw⟩
            obtain rfl := hw.symm
            go_wp2_with go_big_skip
            go_ret
            exact ⟨by rw [E.out]; rfl, rfl⟩
          · have E := Hid.mk' (HNx.out (by rw [hbd, decide_eq_false t4]; rfl))
            have d4 : ¬ (depU (upF l) k : Int) ≥ 7 := by omega
            replace K2 := Hid.mk' K2
            clear hbd K1 t4
            generalize depU (upF l) k = D at *
            go_wp2_with fail
            refine K2.out.mono ?_
            rintro e w1 ⟨rfl, hw⟩
            obtain rfl := hw.symm
            go_wp2_with go_big_skip
            go_round
            case rel => exact ⟨k + 1, by omega, by go_num, E.out⟩
            case measure => simp [intOf]; omega
        · rw [t2] at hbd
          cases t3 : pU l k
          · rw [t3] at hbd K1
            by_cases t4 : 7 ≤ depU (upF l) k
            · have E := Hid.mk' (HBd.out (by rw [hbd, decide_eq_true t4]; rfl))
              have d4 : (depU (upF l) k : Int) ≥ 7 := by omega
              replace K2 := Hid.mk' K2
              replace K1 := Hid.mk' K1
              clear hbd t4
              generalize depU (upF l) k = D at *
              go_wp2_with fail
              refine K1.out.mono ?_
              rintro e w1 ⟨rfl, hw⟩
              obtain rfl := hw.symm
              go_wp2_with fail
              refine K2.out.mono ?_
              rintro e w1 ⟨rfl, hw⟩
              obtain rfl := hw.symm
              go_wp2_with go_big_skip
              go_ret
              exact ⟨by rw [E.out]; rfl, rfl⟩
            · have E := Hid.mk' (HNx.out (by rw [hbd, decide_eq_false t4]; rfl))
              have d4 : ¬ (depU (upF l) k : Int) ≥ 7 := by omega
              replace K2 := Hid.mk' K2
              replace K1 := Hid.mk' K1
              clear hbd t4
              generalize depU (upF l) k = D at *
              go_wp2_with fail
              refine K1.out.mono ?_
              rintro e w1 ⟨rfl, hw⟩
              obtain rfl := hw.symm
              go_wp2_with fail
              refine K2.out.mono ?_
              rintro e w1 ⟨rfl, hw⟩
              obtain rfl := hw.symm
              go_wp2_with go_big_skip
              go_round
              case rel => exact ⟨k + 1, by omega, by go_num, E.out⟩
              case measure => simp [intOf]; omega
          · rw [t3] at hbd K1
            have E := Hid.mk' (HBd.out (by rw [hbd]; rfl))
            replace K1 := Hid.mk' K1
            clear hbd K2
            go_wp2_with fail
            refine K1.out.mono ?_
            rintro e w1 ⟨rfl, hw⟩
            obtain rfl := hw.symm
            go_wp2_with go_big_skip
            go_ret
            exact ⟨by rw [E.out]; rfl, rfl⟩
      · rw [t1] at hbd
        have E := Hid.mk' (HNx.out (by rw [hbd]; rfl))
        clear hbd K1 K2
        go_wp2_with go_big_skip
        go_round
        case rel => exact ⟨k + 1, by omega, by go_num, E.out⟩
        case measure => simp [intOf]; omega
    · have ci : ¬ (k : Int) < (l.length : Int) := by omega
      have e : k = l.length := by omega
      subst e
      go_wp2
      go_ret
      exact ⟨by rw [HO.out]; rfl, rfl⟩

set_option maxHeartbeats 800000 in
theorem specStable_any (a : Option Addr) (c : Nat) (l : List ND) (w : World) (ha : NsAt w a l) (hl : (l.length : Int) + nssz l ≤ 1048576) :
    Calls Try.prog 6 #[.slice a l.length c] w fun e w' => e = .returned (.bool (stB l)) ∧ Below w.heap.size w w' := by
  have KF := l6Fault_any a c l w ha hl
  have HA := Hid.mk' ha
  clear ha
  unfold stB
  by_cases h0 : treeF l = 0
  · have KS : Hid (∀ W : World, Below w.heap.size w W → Calls Try.prog 15 #[.slice a l.length c] W fun e w' => e = .returned (.bool (okU l l.length)) ∧ w' = W) := fun W hb => l9Stable_any a c l W (HA.out.below hb) h0 hl
    rw [h0] at KF
    rw [decide_eq_true h0, Bool.true_and]
    have KF := Hid.mk' KF
    clear h0
    generalize okU l l.length = B at *
    go_enter Try.func6, Try.ntmps6
    go_wp2_with fail
    refine KF.out.mono ?_
    rintro e w1 ⟨rfl, hb⟩
    have HB := Hid.mk' hb
    clear hb
    go_wp2_with fail
    refine (KS.out _ HB.out).mono ?_
    rintro e w2 ⟨rfl, hw⟩
    obtain rfl := hw.symm
    go_wp2
    go_ret
    exact ⟨rfl, HB.out⟩
  · rw [decide_eq_false h0, Bool.false_and]
    have h1 : (treeF l == 0) = false := by rw [beq_eq_false_iff_ne]; exact h0
    have KF := Hid.mk' KF
    generalize treeF l = T at *
    go_enter Try.func6, Try.ntmps6
    go_wp2_with fail
    refine KF.out.mono ?_
    rintro e w1 ⟨rfl, hb⟩
    have HB := Hid.mk' hb
    clear hb
    go_wp2
    go_ret
    exact ⟨rfl, HB.out⟩

end Go.Proofs.Ytngdcpmolbpoeaa
