/- The model's side of a tree's fault: what a node is in, how deep it is, what it is. -/
import Derived.Test.YtngdcpmolbpoeaaGc
import Derived.BigGuard
namespace Go.Proofs.Ytngdcpmolbpoeaa
open Go.RowKit
set_option linter.unusedVariables false
set_option linter.unusedSimpArgs false

/-- The Up of the k-th. -/
def upF (l : List ND) (k : Nat) : Int := (ndK l k).up

/-- All ahead of the k-th have an Up that is so. -/
def Ways (l : List ND) (k : Nat) : Prop := ∀ j, j < k → depU (upF l) j < (wayU (upF l) j).length

theorem Ways.good {l : List ND} {k : Nat} (h : Ways l k) : GoodW (upF l) k (wayU (upF l) k) := good_way _ _ h

theorem Ways.mono {l : List ND} {k j : Nat} (h : Ways l k) (hj : j ≤ k) : Ways l j := fun i hi => h i (by omega)

/-- Is the number one of a way? -/
def inW (W : List Int) (x : Int) : Bool := decide (ixF W x < W.length)

set_option maxHeartbeats 800000 in
theorem l6In_any (a : Option Addr) (c : Nat) (l : List ND) (k : Nat) (x : Int) (w : World) (ha : NsAt w a l) (hk : k ≤ l.length) (hW : Ways l k) (hl : (l.length : Int) ≤ 1048576) :
    Calls Try.prog 36 #[.slice a l.length c, .int .i64 ((k : Int) - 1), .int .i64 x] w fun e w' => e = .returned (.bool (inW (wayU (upF l) k) x)) ∧ w' = w := by
  have G := hW.good
  have HG := Hid.mk' G
  obtain ⟨W, hWe⟩ : ∃ W, wayU (upF l) k = W := ⟨_, rfl⟩
  rw [hWe] at HG G
  rw [hWe]
  have e0 := G.last
  have l0 := G.ne
  clear hWe G hW
  rw [← e0]
  go_enter Try.func36, Try.ntmps36
  go_wp2
  go_loop [1] (fun i => ∃ p : Nat, p < W.length ∧ i = .int .i64 (wv W p) ∧ ∀ q, p < q → q < W.length → ¬ wv W q = x) (fun i => (intOf i + 1).toNat)
  case atStart => exact ⟨W.length - 1, by omega, rfl, fun q h1 h2 => by omega⟩
  case round =>
    obtain ⟨p, hp, rfl, hn⟩ := hrel
    have HN := Hid.mk' hn
    have lo := HG.out.lo hp
    have hi := HG.out.hi hp
    clear hn e0
    by_cases e : wv W p = x
    · have E : Hid (inW W x = true) := Hid.mk' (by
        unfold inW
        rw [← e, HG.out.ix hp]
        exact decide_eq_true hp)
      by_cases c1 : wv W p ≥ 0
      · go_wp2
        go_ret
        exact ⟨by rw [E.out]; simp [e], rfl⟩
      · go_wp2
        go_ret
        exact ⟨by rw [E.out]; simp [e], rfl⟩
    · by_cases c1 : wv W p ≥ 0
      · have hp0 : 0 < p := by
          rcases Nat.eq_zero_or_pos p with h | h
          · subst h; rw [HG.out.hd] at c1; omega
          · exact h
        obtain ⟨h0, h1, h2⟩ := HG.out.ch (p - 1) (by omega)
        rw [show p - 1 + 1 = p by omega] at h0 h1 h2
        obtain ⟨m, hm⟩ : ∃ m : Nat, wv W p = (m : Int) := ⟨(wv W p).toNat, by omega⟩
        rw [hm] at e c1 hi h0 h1 h2 ⊢
        rw [Int.toNat_natCast] at h1
        have hml : m < l.length := by omega
        rcases ha with ha | ⟨b, o, rfl, hbs, hc⟩
        · rw [ha] at hml; exact absurd hml (Nat.not_lt_zero _)
        obtain ⟨q1, _⟩ := hc m hml
        have ci : (m : Int) < (l.length : Int) := by omega
        have H1 := Hid.mk' h1
        have H2 := Hid.mk' h2
        have q1' : w.cell? ⟨b, o + m * 4, none⟩ = some (.int .i64 (wv W (p - 1))) := by rw [q1, h1]; rfl
        have EP := Hid.mk' hm
        have EX := Hid.mk' e
        clear hc q1 h1 h2 lo hm
        go_wp2
        go_round
        case rel => exact ⟨p - 1, by omega, rfl, fun q h3 h4 => by
          by_cases h : q = p
          · subst h; rw [EP.out]; exact EX.out
          · exact HN.out q (by omega) h4⟩
        case measure =>
          have h1 := H2.out
          have h2 := HG.out.lo (i := p - 1) (by omega)
          simp only [intOf]; omega
      · have hp0 : p = 0 := by
          rcases Nat.eq_zero_or_pos p with h | h
          · exact h
          · exact absurd (HG.out.pos h hp) c1
        subst hp0
        have E : Hid (inW W x = false) := Hid.mk' (by
          unfold inW
          rw [ixF_none W x (fun j hj => by
            by_cases h : j = 0
            · subst h; exact e
            · exact HN.out j (by omega) hj)]
          exact decide_eq_false (by omega))
        go_wp2
        go_ret
        exact ⟨by rw [E.out]; simp [e], rfl⟩

set_option maxHeartbeats 800000 in
theorem l6Depth_any (a : Option Addr) (c : Nat) (l : List ND) (k : Nat) (w : World) (ha : NsAt w a l) (hk : k < l.length) (hW : Ways l k) (hd : depU (upF l) k < (wayU (upF l) k).length) (hl : (l.length : Int) ≤ 1048576) :
    Calls Try.prog 38 #[.slice a l.length c, .int .i64 (k : Int)] w fun e w' => e = .returned (.int .i64 (depU (upF l) k : Int)) ∧ w' = w := by
  have G := hW.good
  have hat : wv (wayU (upF l) k) (depU (upF l) k) = (ndK l k).up := ixF_at hd
  obtain ⟨W, hWe⟩ : ∃ W, wayU (upF l) k = W := ⟨_, rfl⟩
  obtain ⟨d, hde⟩ : ∃ d, depU (upF l) k = d := ⟨_, rfl⟩
  rw [hWe] at G hat hd
  rw [hde] at hat hd
  rw [hde]
  have HG := Hid.mk' G
  have hle := G.le
  clear hWe hde G hW
  rcases ha with ha | ⟨b, o, rfl, hbs, hc⟩
  · rw [ha] at hk; exact absurd hk (Nat.not_lt_zero _)
  obtain ⟨q1, _⟩ := hc k hk
  rw [← hat] at q1
  have HC := Hid.mk' hc
  have ck : (k : Int) < (l.length : Int) := by omega
  clear hat hc
  go_enter Try.func38, Try.ntmps38
  go_wp2
  go_loop [1, 5] (fun i n => ∃ p : Nat, p ≤ d ∧ i = .int .i64 (wv W p) ∧ n = .int .i64 ((d - p : Nat) : Int)) (fun i _ => (intOf i + 1).toNat)
  case atStart => exact ⟨d, Nat.le_refl _, rfl, by simp⟩
  case round =>
    obtain ⟨p, hp, rfl, rfl⟩ := hrel
    have lo := HG.out.lo (i := p) (by omega)
    have hi := HG.out.hi (i := p) (by omega)
    by_cases c1 : wv W p ≥ 0
    · have hp0 : 0 < p := by
        rcases Nat.eq_zero_or_pos p with h | h
        · subst h; rw [HG.out.hd] at c1; omega
        · exact h
      obtain ⟨h0, h1, h2⟩ := HG.out.ch (p - 1) (by omega)
      rw [show p - 1 + 1 = p by omega] at h0 h1 h2
      obtain ⟨m, hm⟩ : ∃ m : Nat, wv W p = (m : Int) := ⟨(wv W p).toNat, by omega⟩
      rw [hm] at c1 hi h0 h1 h2 ⊢
      rw [Int.toNat_natCast] at h1
      have hml : m < l.length := by omega
      obtain ⟨q2, _⟩ := HC.out m hml
      have ci : (m : Int) < (l.length : Int) := by omega
      have H1 := Hid.mk' h1
      have H2 := Hid.mk' h2
      have q2' : w.cell? ⟨b, o + m * 4, none⟩ = some (.int .i64 (wv W (p - 1))) := by rw [q2, h1]; rfl
      clear q2 h1 h2 lo hm q1
      go_wp2
      go_round
      case rel => exact ⟨p - 1, by omega, rfl, by go_num⟩
      case measure =>
        have h1 := H2.out
        have h2 := HG.out.lo (i := p - 1) (by omega)
        simp only [intOf]; omega
    · have hp0 : p = 0 := by
        rcases Nat.eq_zero_or_pos p with h | h
        · exact h
        · exact absurd (HG.out.pos h (by omega)) c1
      subst hp0
      go_wp2
      go_ret
      exact ⟨rfl, rfl⟩

/-- An element or a text. -/
def kindB (t : ND) : Bool := if (t.tg.toList == []) = true then decide (t.at_.length = 0) && decide (1 ≤ (t.tx.length : Int)) && decide ((t.tx.length : Int) ≤ 240) else decide (t.tx.length = 0)

set_option maxHeartbeats 1600000 in
theorem l6Kind_any (t : ND) (b o : Nat) (p p' : Option Addr) (d d' : Nat) (w : World) (h1 : w.cell? ⟨b, o + 1, none⟩ = some (.string t.tg)) (h2 : w.cell? ⟨b, o + 2, none⟩ = some (.slice p t.at_.length d)) (h3 : w.cell? ⟨b, o + 3, none⟩ = some (.slice p' t.tx.length d')) :
    Calls Try.prog 33 #[.pointer (some ⟨b, o, none⟩)] w fun e w' => e = .returned (.bool (kindB t)) ∧ w' = w := by
  obtain ⟨n, hn⟩ : ∃ n, t.at_.length = n := ⟨_, rfl⟩
  obtain ⟨m, hm⟩ : ∃ m, t.tx.length = m := ⟨_, rfl⟩
  have E : kindB t = if (t.tg.toList == []) = true then decide (n = 0) && decide (1 ≤ (m : Int)) && decide ((m : Int) ≤ 240) else decide (m = 0) := by
    unfold kindB
    rw [hm, hn]
  rw [hn] at h2
  rw [hm] at h3
  rw [E]
  clear E hn hm
  cases e1 : (t.tg.toList == [])
  · by_cases e2 : (m : Int) = 0
    all_goals
      go_enter Try.func33, Try.ntmps33
      go_wp2_with go_big_skip
      go_ret
      exact ⟨by first | (simp; done) | (simp; omega) | (have h0 : ¬ m = 0 := (by omega); simp [h0, e2]; done), rfl⟩
  · by_cases e2 : (n : Int) = 0
    · by_cases e3 : (m : Int) ≥ 1
      · by_cases e4 : (m : Int) ≤ 240
        all_goals
          go_enter Try.func33, Try.ntmps33
          go_wp2_with go_big_skip
          go_ret
          exact ⟨by first | (simp; done) | (simp; omega) | (have h0 : ¬ m = 0 := (by omega); simp [h0, e2]; done), rfl⟩
      · go_enter Try.func33, Try.ntmps33
        go_wp2_with go_big_skip
        go_ret
        exact ⟨by first | (simp; done) | (simp; omega) | (have h0 : ¬ m = 0 := (by omega); simp [h0, e2]; done), rfl⟩
    · go_enter Try.func33, Try.ntmps33
      go_wp2_with go_big_skip
      go_ret
      exact ⟨by first | (simp; done) | (simp; omega) | (have h0 : ¬ m = 0 := (by omega); simp [h0, e2]; done), rfl⟩

end Go.Proofs.Ytngdcpmolbpoeaa
