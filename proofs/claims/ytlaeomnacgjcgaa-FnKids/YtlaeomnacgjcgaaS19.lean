/- The model's side of a tree's fault: what a node is in, how deep it is, what it is. -/
import Derived.Test.YtlaeomnacgjcgaaS18
import Derived.BigGuard
import Derived.Test.YtlaeomnacgjcgaaS6
set_option linter.unusedVariables false
set_option linter.unusedSimpArgs false
namespace Go.Proofs.Ytlaeomnacgjcgaa
open Go.RowKit

def upF (l : List ND) (k : Nat) : Int := (ndK l k).up

def Ways (l : List ND) (k : Nat) : Prop := ∀ j, j < k → depU (upF l) j < (wayU (upF l) j).length

theorem Ways.good {l : List ND} {k : Nat} (h : Ways l k) : GoodW (upF l) k (wayU (upF l) k) := good_way _ _ h

theorem Ways.mono {l : List ND} {k j : Nat} (h : Ways l k) (hj : j ≤ k) : Ways l j := fun i hi => h i (by omega)

def inW (W : List Int) (x : Int) : Bool := decide (ixF W x < W.length)

set_option maxHeartbeats 800000 in
theorem l6In_any (a : Option Addr) (c : Nat) (l : List ND) (k : Nat) (x : Int) (w : World) (ha : NsAt w a l) (hk : k ≤ l.length) (hW : Ways l k) (hl : (l.length : Int) ≤ 1048576) :
    Calls Try.prog 28 #[.slice a l.length c, .int .i64 ((k : Int) - 1), .int .i64 x] w fun e w' => e = .returned (.bool (inW (wayU (upF l) k) x)) ∧ w' = w := by
  have G := hW.good
  have HG := Hid.mk' G
  obtain ⟨W, hWe⟩ : ∃ W, wayU (upF l) k = W := ⟨_, rfl⟩
  rw [hWe] at HG G
  rw [hWe]
  have e0 := G.last
  have l0 := G.ne
  clear hWe G hW
  rw [← e0]
  go_enter Try.func28, Try.ntmps28
  go_wp2
  go_loop [1] (fun i => ∃ p : Nat, p < W.length ∧ i = .int .i64 (wv W p) ∧ ∀ q, p < q → q < W.length → ¬ wv W q = x) (fun i => (intOf i + 1).toNat)
  case atStart => exact ⟨W.length - 1, by omega, rfl, fun q h1 h2 => by omega⟩
  case round =>
    obtain ⟨p, hp, rfl, hn⟩ := hrel
    have HN := Hid.mk' hn
    have lo := HG.out.lo hp
    have hi := HG.out.hi hp
    clear hn e0
    by_cases e : wv W p = x
    · have E : Hid (inW W x = true) := Hid.mk' (by
        unfold inW
        rw [← e, HG.out.ix hp]
        exact decide_eq_true hp)
      by_cases c1 : wv W p ≥ 0
      · go_wp2
        go_ret
        exact ⟨by rw [E.out]; simp [e], rfl⟩
      · go_wp2
        go_ret
        exact ⟨by rw [E.out]; simp [e], rfl⟩
    · by_cases c1 : wv W p ≥ 0
      · have hp0 : 0 < p := by
          rcases Nat.eq_zero_or_pos p with h | h
          · subst h; rw [HG.out.hd] at c1; omega
          · exact h
        obtain ⟨h0, h1, h2⟩ := HG.out.ch (p - 1) (by omega)
        rw [show p - 1 + 1 = p by omega] at h0 h1 h2
        obtain ⟨m, hm⟩ : ∃ m : Nat, wv W p = (m : Int) := ⟨(wv W p).toNat, by omega⟩
        rw [hm] at e c1 hi h0 h1 h2 ⊢
        rw [Int.toNat_natCast] at h1
        have hml : m < l.length := by omega
        rcases ha with ha | ⟨b, o, rfl, hbs, hc⟩
        · rw [ha] at hml; exact absurd hml (Nat.not_lt_zero _)
        obtain ⟨q1, _⟩ := hc m hml
        have ci : (m : Int) < (l.length : Int) := by omega
        have H1 := Hid.mk' h1
        have H2 := Hid.mk' h2
        have q1' : w.cell? ⟨b, o + m * 4, none⟩ = some (.int .i64 (wv W (p - 1))) := by rw [q1, h1]; rfl
        have EP := Hid.mk' hm
        have EX := Hid.mk' e
        clear hc q1 h1 h2 lo hm
        go_wp2
        go_round
        case rel => exact ⟨p - 1, by omega, rfl, fun q h3 h4 => by
          by_cases h : q = p
          · subst h; rw [EP.out]; exact EX.out
          · exact HN.out q (by omega) h4⟩
        case measure =>
          have h1 := H2.out
          have h2 := HG.out.lo (i := p - 1) (by omega)
          simp only [intOf]; omega
      · have hp0 : p = 0 := by
          rcases Nat.eq_zero_or_pos p with h | h
          · exact h
          · exact absurd (HG.out.pos h hp) c1
        subst hp0
        have E : Hid (inW W x = false) := Hid.mk' (by
          unfold inW
          rw [ixF_none W x (fun j hj => by
            by_cases h : j = 0
            · subst h; exact e
            · exact HN.out j (by omega) hj)]
          exact decide_eq_false (by omega))
        go_wp2
        go_ret
        exact ⟨by rw [E.out]; simp [e], rfl⟩

set_option maxHeartbeats 800000 in
theorem l6Depth_any (a : Option Addr) (c : Nat) (l : List ND) (k : Nat) (w : World) (ha : NsAt w a l) (hk : k < l.length) (hW : Ways l k) (hd : depU (upF l) k < (wayU (upF l) k).length) (hl : (l.length : Int) ≤ 1048576) :
    Calls Try.prog 33 #[.slice a l.length c, .int .i64 (k : Int)] w fun e w' => e = .returned (.int .i64 (depU (upF l) k : Int)) ∧ w' = w := by
  have G := hW.good
  have hat : wv (wayU (upF l) k) (depU (upF l) k) = (ndK l k).up := ixF_at hd
  obtain ⟨W, hWe⟩ : ∃ W, wayU (upF l) k = W := ⟨_, rfl⟩
  obtain ⟨d, hde⟩ : ∃ d, depU (upF l) k = d := ⟨_, rfl⟩
  rw [hWe] at G hat hd
  rw [hde] at hat hd
  rw [hde]
  have HG := Hid.mk' G
  have hle := G.le
  clear hWe hde G hW
  rcases ha with ha | ⟨b, o, rfl, hbs, hc⟩
  · rw [ha] at hk; exact absurd hk (Nat.not_lt_zero _)
  obtain ⟨q1, _⟩ := hc k hk
  rw [← hat] at q1
  have HC := Hid.mk' hc
  have ck : (k : Int) < (l.length : Int) := by omega
  clear hat hc
  go_enter Try.func33, Try.ntmps33
  go_wp2
  go_loop [1, 5] (fun i n => ∃ p : Nat, p ≤ d ∧ i = .int .i64 (wv W p) ∧ n = .int .i64 ((d - p : Nat) : Int)) (fun i _ => (intOf i + 1).toNat)
  case atStart => exact ⟨d, Nat.le_refl _, rfl, by simp⟩
  case round =>
    obtain ⟨p, hp, rfl, rfl⟩ := hrel
    have lo := HG.out.lo (i := p) (by omega)
    have hi := HG.out.hi (i := p) (by omega)
    by_cases c1 : wv W p ≥ 0
    · have hp0 : 0 < p := by
        rcases Nat.eq_zero_or_pos p with h | h
        · subst h; rw [HG.out.hd] at c1; omega
        · exact h
      obtain ⟨h0, h1, h2⟩ := HG.out.ch (p - 1) (by omega)
      rw [show p - 1 + 1 = p by omega] at h0 h1 h2
      obtain ⟨m, hm⟩ : ∃ m : Nat, wv W p = (m : Int) := ⟨(wv W p).toNat, by omega⟩
      rw [hm] at c1 hi h0 h1 h2 ⊢
      rw [Int.toNat_natCast] at h1
      have hml : m < l.length := by omega
      obtain ⟨q2, _⟩ := HC.out m hml
      have ci : (m : Int) < (l.length : Int) := by omega
      have H1 := Hid.mk' h1
      have H2 := Hid.mk' h2
      have q2' : w.cell? ⟨b, o + m * 4, none⟩ = some (.int .i64 (wv W (p - 1))) := by rw [q2, h1]; rfl
      clear q2 h1 h2 lo hm q1
      go_wp2
      go_round
      case rel => exact ⟨p - 1, by omega, rfl, by go_num⟩
      case measure =>
        have h1 := H2.out
        have h2 := HG.out.lo (i := p - 1) (by omega)
        simp only [intOf]; omega
    · have hp0 : p = 0 := by
        rcases Nat.eq_zero_or_pos p with h | h
        · exact h
        · exact absurd (HG.out.pos h (by omega)) c1
      subst hp0
      go_wp2
      go_ret
      exact ⟨rfl, rfl⟩

def kindB (t : ND) : Bool := if (t.tg.toList == []) = true then decide (t.at_.length = 0) && decide (1 ≤ (t.tx.length : Int)) && decide ((t.tx.length : Int) ≤ 240) else decide (t.tx.length = 0)

set_option maxHeartbeats 1600000 in
theorem l6Kind_any (t : ND) (b o : Nat) (p p' : Option Addr) (d d' : Nat) (w : World) (h1 : w.cell? ⟨b, o + 1, none⟩ = some (.string t.tg)) (h2 : w.cell? ⟨b, o + 2, none⟩ = some (.slice p t.at_.length d)) (h3 : w.cell? ⟨b, o + 3, none⟩ = some (.slice p' t.tx.length d')) :
    Calls Try.prog 54 #[.pointer (some ⟨b, o, none⟩)] w fun e w' => e = .returned (.bool (kindB t)) ∧ w' = w := by
  obtain ⟨n, hn⟩ : ∃ n, t.at_.length = n := ⟨_, rfl⟩
  obtain ⟨m, hm⟩ : ∃ m, t.tx.length = m := ⟨_, rfl⟩
  have E : kindB t = if (t.tg.toList == []) = true then decide (n = 0) && decide (1 ≤ (m : Int)) && decide ((m : Int) ≤ 240) else decide (m = 0) := by
    unfold kindB
    rw [hm, hn]
  rw [hn] at h2
  rw [hm] at h3
  rw [E]
  clear E hn hm
  cases e1 : (t.tg.toList == [])
  · by_cases e2 : (m : Int) = 0
    all_goals
      go_enter Try.func54, Try.ntmps54
      go_wp2_with go_big_skip
      go_ret
      exact ⟨by first | (simp; done) | (simp; omega) | (have h0 : ¬ m = 0 := (by omega); simp [h0, e2]; done), rfl⟩
  · by_cases e2 : (n : Int) = 0
    · by_cases e3 : (m : Int) ≥ 1
      · by_cases e4 : (m : Int) ≤ 240
        all_goals
          go_enter Try.func54, Try.ntmps54
          go_wp2_with go_big_skip
          go_ret
          exact ⟨by first | (simp; done) | (simp; omega) | (have h0 : ¬ m = 0 := (by omega); simp [h0, e2]; done), rfl⟩
      · go_enter Try.func54, Try.ntmps54
        go_wp2_with go_big_skip
        go_ret
        exact ⟨by first | (simp; done) | (simp; omega) | (have h0 : ¬ m = 0 := (by omega); simp [h0, e2]; done), rfl⟩
    · go_enter Try.func54, Try.ntmps54
      go_wp2_with go_big_skip
      go_ret
      exact ⟨by first | (simp; done) | (simp; omega) | (have h0 : ¬ m = 0 := (by omega); simp [h0, e2]; done), rfl⟩

end Go.Proofs.Ytlaeomnacgjcgaa

namespace Go.Proofs.Ytlaeomnacgjcgaa
open Go.RowKit

def markF (t : ND) : Int := if kindB t = true then (if (t.tg.toList == []) = true then 0 else if nmB t.tg = true then afault t.at_ else 5) else 1

def holdB (t : ND) : Bool := !(t.tg.toList == []) && !voidB t.tg

def sideB (l : List ND) (k : Nat) : Bool := decide (0 < k) && ((ndK l k).tg.toList == []) && ((ndK l (k - 1)).tg.toList == []) && decide ((ndK l (k - 1)).up = (ndK l k).up)

def placeF (l : List ND) (k : Nat) : Int :=
  if depU (upF l) k < (wayU (upF l) k).length then
    (if 0 ≤ (ndK l k).up ∧ holdB (ndK l (ndK l k).up.toNat) = false then 1
     else if sideB l k = true then 1 else if 8 ≤ depU (upF l) k then 2 else 0)
  else 3

def oneF (l : List ND) (k : Nat) : Int := if markF (ndK l k) = 0 then placeF l k else markF (ndK l k)

def treeF (l : List ND) : Int := if 60 < l.length then 2 else firstF (oneF l) l.length 0

theorem inW_iff (l : List ND) (k : Nat) : inW (wayU (upF l) k) (ndK l k).up = decide (depU (upF l) k < (wayU (upF l) k).length) := rfl

theorem oneF_dep {l : List ND} {k : Nat} (h : oneF l k = 0) : depU (upF l) k < (wayU (upF l) k).length := by
  unfold oneF at h
  split at h
  · unfold placeF at h
    split at h
    · assumption
    · exact absurd h (by decide)
  · contradiction

theorem ways_of {l : List ND} {k : Nat} (h : ∀ j, j < k → oneF l j = 0) : Ways l k := fun j hj => oneF_dep (h j hj)

theorem oneF_mark {l : List ND} {k : Nat} {c : Int} (h : markF (ndK l k) = c) (hc : ¬ c = 0) : oneF l k = c := by
  unfold oneF; rw [h, if_neg hc]

theorem oneF_place {l : List ND} {k : Nat} (h : markF (ndK l k) = 0) : oneF l k = placeF l k := by
  unfold oneF; rw [if_pos h]

theorem treeF_len {l : List ND} (h : treeF l = 0) : l.length ≤ 60 := by
  unfold treeF at h
  split at h
  · exact absurd h (by decide)
  · omega

theorem firstF_zero (f : Nat → Int) : ∀ (n i : Nat), firstF f n i = 0 → ∀ j, j < n → f (i + j) = 0
  | 0, _, _, j, hj => absurd hj (Nat.not_lt_zero _)
  | n + 1, i, h, j, hj => by
    unfold firstF at h
    split at h
    · rename_i h0
      cases j with
      | zero => exact h0
      | succ j => rw [show i + (j + 1) = i + 1 + j by omega]; exact firstF_zero f n (i + 1) h j (by omega)
    · contradiction

theorem treeF_ones {l : List ND} (h : treeF l = 0) : ∀ j, j < l.length → oneF l j = 0 := by
  have hl := treeF_len h
  unfold treeF at h
  rw [if_neg (by omega)] at h
  intro j hj
  have := firstF_zero _ _ _ h j hj
  rwa [Nat.zero_add] at this

theorem treeF_ways {l : List ND} (h : treeF l = 0) : Ways l l.length := ways_of (treeF_ones h)

theorem treeF_hit {l : List ND} {k : Nat} {c : Int} (hl : ¬ 60 < l.length) (hk : k < l.length) (hz : ∀ j, j < k → oneF l j = 0) (hc : oneF l k = c) (h0 : ¬ c = 0) : treeF l = c := by
  unfold treeF
  rw [if_neg hl, firstF_hit (oneF l) l.length 0 k hk (fun j hj => by rw [Nat.zero_add]; exact hz j hj) (by rw [Nat.zero_add, hc]; exact h0), Nat.zero_add, hc]

theorem treeF_none {l : List ND} (hl : ¬ 60 < l.length) (hz : ∀ j, j < l.length → oneF l j = 0) : treeF l = 0 := by
  unfold treeF
  rw [if_neg hl, firstF_none _ _ _ (fun j hj => by rw [Nat.zero_add]; exact hz j hj)]

def askF (l : List ND) (x : Int) : Int := if treeF l = 0 then (if 0 ≤ x ∧ x < (l.length : Int) then 0 else 3) else treeF l

end Go.Proofs.Ytlaeomnacgjcgaa

namespace Go.Proofs.Ytlaeomnacgjcgaa
open Go.RowKit

set_option maxHeartbeats 8000000 in
theorem l6One_pos (a : Option Addr) (c : Nat) (l : List ND) (k : Nat) (w : World) (ha : NsAt w a l) (hk : k < l.length) (k0 : 0 < k) (hW : Ways l k) (hl : (l.length : Int) + nssz l ≤ 1048576) :
    Calls Try.prog 46 #[.slice a l.length c, .int .i64 (k : Int)] w fun e w' => e = .returned (.int .i64 (oneF l k)) ∧ Below w.heap.size w w' := by
  have hlen : (l.length : Int) ≤ 1048576 := by omega
  have KI0 : Hid (∀ w', Below w.heap.size w w' → Calls Try.prog 28 #[.slice a l.length c, .int .i64 ((k : Int) - 1), .int .i64 (ndK l k).up] w' fun e w'' => e = .returned (.bool (inW (wayU (upF l) k) (ndK l k).up)) ∧ w'' = w') := fun w' hb => l6In_any a c l k (ndK l k).up w' (ha.below hb) (by omega) hW hlen
  have KD0 : Hid (depU (upF l) k < (wayU (upF l) k).length → ∀ w', Below w.heap.size w w' → Calls Try.prog 33 #[.slice a l.length c, .int .i64 (k : Int)] w' fun e w'' => e = .returned (.int .i64 (depU (upF l) k : Int)) ∧ w'' = w') := fun hd w' hb => l6Depth_any a c l k w' (ha.below hb) hk hW hd hlen
  have KV0 : Hid (∀ (s : ByteArray) (w' : World), Calls Try.prog 36 #[.string s] w' fun e w'' => e = .returned (.bool (voidB s)) ∧ w'' = w') := fun s w' => l6Void_any s w'
  have G := hW.good
  have hsz := nssz_at hk
  rw [inW_iff] at KI0
  rcases ha with ha | ⟨b, o, rfl, hbs, hc⟩
  · rw [ha] at hk; exact absurd hk (Nat.not_lt_zero _)
  obtain ⟨c0, c1, ⟨p, d, c2, hd, hA⟩, ⟨p', d', c3, _⟩⟩ := hc k hk
  have HC := Hid.mk' hc
  have ck : (k : Int) < (l.length : Int) := by omega
  have KK := l6Kind_any (ndK l k) b (o + k * 4) p p' d d' w c1 c2 c3
  have KN := l4Name_any (ndK l k).tg w (by unfold nsz at hsz; omega)
  have KA := l4Attrs_any p d (ndK l k).at_ w hA hd (by unfold nsz at hsz; omega)
  have MU := Hid.mk' (show markF (ndK l k) = if kindB (ndK l k) = true then (if ((ndK l k).tg.toList == []) = true then 0 else if nmB (ndK l k).tg = true then afault (ndK l k).at_ else 5) else 1 from rfl)
  have PU := Hid.mk' (show placeF l k = if depU (upF l) k < (wayU (upF l) k).length then (if 0 ≤ (ndK l k).up ∧ holdB (ndK l (ndK l k).up.toNat) = false then 1 else if sideB l k = true then 1 else if 8 ≤ depU (upF l) k then 2 else 0) else 3 from rfl)
  have upb : depU (upF l) k < (wayU (upF l) k).length → -1 ≤ (ndK l k).up ∧ (ndK l k).up < k := fun h => by
    have e : wv (wayU (upF l) k) (depU (upF l) k) = (ndK l k).up := ixF_at h
    rw [← e]
    exact ⟨G.lo h, G.hi h⟩
  have SU := Hid.mk' (show sideB l k = (decide (0 < k) && ((ndK l k).tg.toList == []) && ((ndK l (k - 1)).tg.toList == []) && decide ((ndK l (k - 1)).up = (ndK l k).up)) from rfl)
  clear hc G hA hsz
  obtain ⟨y, hy⟩ : ∃ y : Int, (k : Int) - 1 = y := ⟨_, rfl⟩
  rw [hy] at KI0
  cases hkd : kindB (ndK l k) with
  | false =>
    rw [hkd] at KK
    have KK := Hid.mk' KK
    have E : Hid (oneF l k = 1) := Hid.mk' (oneF_mark (by rw [MU.out, hkd]; rfl) (by decide))
    clear KN KA upb
    go_enter Try.func46, Try.ntmps46
    go_wp2_with (first | go_big_skip | (go_at_call 54; refine KK.out.mono ?_; rintro e w9 ⟨rfl, hw9⟩; obtain rfl := hw9.symm))
    go_ret
    exact ⟨by rw [E.out]; rfl, by first | exact HB.out | exact Below.refl _ _⟩
  | true =>
    rw [hkd] at KK
    have KK := Hid.mk' KK
    cases htg : ((ndK l k).tg.toList == []) with
    | false =>
      cases hnm : nmB (ndK l k).tg with
      | false =>
        rw [hnm] at KN
        have KN := Hid.mk' KN
        have E : Hid (oneF l k = 5) := Hid.mk' (oneF_mark (by rw [MU.out, hkd, htg, hnm]; rfl) (by decide))
        clear KA upb
        go_enter Try.func46, Try.ntmps46
        go_wp2_with (first | go_big_skip | (go_at_call 54; refine KK.out.mono ?_; rintro e w9 ⟨rfl, hw9⟩; obtain rfl := hw9.symm) | (go_at_call 55; refine KN.out.mono ?_; rintro e w9 ⟨rfl, hw9⟩; obtain rfl := hw9.symm))
        go_ret
        exact ⟨by rw [E.out]; rfl, by first | exact HB.out | exact Below.refl _ _⟩
      | true =>
        rw [hnm] at KN
        have KN := Hid.mk' KN
        obtain ⟨f, hf⟩ : ∃ f, afault (ndK l k).at_ = f := ⟨_, rfl⟩
        rw [hf] at KA
        have KA := Hid.mk' KA
        by_cases hf0 : f = 0
        rotate_left
        · have E : Hid (oneF l k = f) := Hid.mk' (oneF_mark (by rw [MU.out, hkd, htg, hnm, ← hf]; rfl) hf0)
          clear upb
          go_enter Try.func46, Try.ntmps46
          go_wp2_with (first | go_big_skip | (go_at_call 54; refine KK.out.mono ?_; rintro e w9 ⟨rfl, hw9⟩; obtain rfl := hw9.symm) | (go_at_call 55; refine KN.out.mono ?_; rintro e w9 ⟨rfl, hw9⟩; obtain rfl := hw9.symm) | (go_at_call 56; refine KA.out.mono ?_; rintro e w1 ⟨rfl, hbb⟩; have HB := Hid.mk' hbb; clear hbb))
          go_ret
          exact ⟨by rw [E.out]; rfl, by first | exact HB.out | exact Below.refl _ _⟩
        rw [hf0] at KA
        have MZ : markF (ndK l k) = 0 := by rw [MU.out, hkd, htg, hnm, ← hf0, ← hf]; rfl
        clear hf0 hf MU
        have HTG := Hid.mk' htg
        have E0 := oneF_place MZ
        rw [PU.out] at E0
        clear PU MZ
        by_cases hd : depU (upF l) k < (wayU (upF l) k).length
        rotate_left
        · rw [if_neg hd] at E0
          have E := Hid.mk' E0
          rw [decide_eq_false hd] at KI0
          have KI := KI0
          clear E0 KI0 KD0 upb SU
          by_cases u1 : (ndK l k).up < -1
          · skip
            go_enter Try.func46, Try.ntmps46
            go_wp2_with (first | go_big_skip | (go_at_call 54; refine KK.out.mono ?_; rintro e w9 ⟨rfl, hw9⟩; obtain rfl := hw9.symm) | (go_at_call 55; refine KN.out.mono ?_; rintro e w9 ⟨rfl, hw9⟩; obtain rfl := hw9.symm) | (go_at_call 56; refine KA.out.mono ?_; rintro e w1 ⟨rfl, hbb⟩; have HB := Hid.mk' hbb; have d0 := (hbb.cell hbs).trans c0; have d1 := (hbb.cell hbs).trans c1; clear hbb) | (go_at_call 28; refine (KI.out _ (by first | exact HB.out | exact Below.refl _ _)).mono ?_; rintro e w9 ⟨rfl, hw9⟩; obtain rfl := hw9.symm))
            go_ret
            exact ⟨by rw [E.out]; rfl, by first | exact HB.out | exact Below.refl _ _⟩
          by_cases u2 : (ndK l k).up ≥ (k : Int)
          · skip
            go_enter Try.func46, Try.ntmps46
            go_wp2_with (first | go_big_skip | (go_at_call 54; refine KK.out.mono ?_; rintro e w9 ⟨rfl, hw9⟩; obtain rfl := hw9.symm) | (go_at_call 55; refine KN.out.mono ?_; rintro e w9 ⟨rfl, hw9⟩; obtain rfl := hw9.symm) | (go_at_call 56; refine KA.out.mono ?_; rintro e w1 ⟨rfl, hbb⟩; have HB := Hid.mk' hbb; have d0 := (hbb.cell hbs).trans c0; have d1 := (hbb.cell hbs).trans c1; clear hbb) | (go_at_call 28; refine (KI.out _ (by first | exact HB.out | exact Below.refl _ _)).mono ?_; rintro e w9 ⟨rfl, hw9⟩; obtain rfl := hw9.symm))
            go_ret
            exact ⟨by rw [E.out]; rfl, by first | exact HB.out | exact Below.refl _ _⟩
          go_enter Try.func46, Try.ntmps46
          go_wp2_with (first | go_big_skip | (go_at_call 54; refine KK.out.mono ?_; rintro e w9 ⟨rfl, hw9⟩; obtain rfl := hw9.symm) | (go_at_call 55; refine KN.out.mono ?_; rintro e w9 ⟨rfl, hw9⟩; obtain rfl := hw9.symm) | (go_at_call 56; refine KA.out.mono ?_; rintro e w1 ⟨rfl, hbb⟩; have HB := Hid.mk' hbb; have d0 := (hbb.cell hbs).trans c0; have d1 := (hbb.cell hbs).trans c1; clear hbb) | (go_at_call 28; refine (KI.out _ (by first | exact HB.out | exact Below.refl _ _)).mono ?_; rintro e w9 ⟨rfl, hw9⟩; obtain rfl := hw9.symm))
          go_ret
          exact ⟨by rw [E.out]; rfl, by first | exact HB.out | exact Below.refl _ _⟩
        obtain ⟨ub1, ub2⟩ := upb hd
        have n1 : ¬ (ndK l k).up < -1 := by omega
        have n2 : ¬ (ndK l k).up ≥ (k : Int) := by omega
        rw [if_pos hd] at E0
        rw [decide_eq_true hd] at KI0
        have KI := KI0
        have KD := Hid.mk' (KD0.out hd)
        obtain ⟨q, hq⟩ : ∃ q, depU (upF l) k = q := ⟨_, rfl⟩
        rw [hq] at E0 KD
        clear KI0 KD0 upb ub1 hd hq
        by_cases u0 : (ndK l k).up ≥ 0
        · obtain ⟨m, hm⟩ : ∃ m : Nat, (ndK l k).up = (m : Int) := ⟨(ndK l k).up.toNat, by omega⟩
          rw [hm] at c0 n1 n2 KI E0 u0 ub2
          rw [Int.toNat_natCast] at E0
          obtain ⟨c4, c5, _⟩ := HC.out m (by omega)
          have cm : (m : Int) < (l.length : Int) := by omega
          cases hh : ((ndK l m).tg.toList == []) with
          | true =>
            rw [if_pos ⟨u0, by unfold holdB; rw [hh]; rfl⟩] at E0
            have E := Hid.mk' E0
            clear E0 SU KD
            go_enter Try.func46, Try.ntmps46
            go_wp2_with (first | go_big_skip | (go_at_call 54; refine KK.out.mono ?_; rintro e w9 ⟨rfl, hw9⟩; obtain rfl := hw9.symm) | (go_at_call 55; refine KN.out.mono ?_; rintro e w9 ⟨rfl, hw9⟩; obtain rfl := hw9.symm) | (go_at_call 56; refine KA.out.mono ?_; rintro e w1 ⟨rfl, hbb⟩; have HB := Hid.mk' hbb; have d0 := (hbb.cell hbs).trans c0; have d1 := (hbb.cell hbs).trans c1; have d4 := (hbb.cell hbs).trans c4; have d5 := (hbb.cell hbs).trans c5; clear hbb) | (go_at_call 28; refine (KI.out _ (by first | exact HB.out | exact Below.refl _ _)).mono ?_; rintro e w9 ⟨rfl, hw9⟩; obtain rfl := hw9.symm))
            go_ret
            exact ⟨by rw [E.out]; rfl, by first | exact HB.out | exact Below.refl _ _⟩
          | false =>
            cases hv : voidB (ndK l m).tg with
            | true =>
              rw [if_pos ⟨u0, by unfold holdB; rw [hh, hv]; rfl⟩] at E0
              have E := Hid.mk' E0
              have KV := Hid.mk' (KV0.out (ndK l m).tg)
              rw [hv] at KV
              clear E0 SU KD
              go_enter Try.func46, Try.ntmps46
              go_wp2_with (first | go_big_skip | (go_at_call 54; refine KK.out.mono ?_; rintro e w9 ⟨rfl, hw9⟩; obtain rfl := hw9.symm) | (go_at_call 55; refine KN.out.mono ?_; rintro e w9 ⟨rfl, hw9⟩; obtain rfl := hw9.symm) | (go_at_call 56; refine KA.out.mono ?_; rintro e w1 ⟨rfl, hbb⟩; have HB := Hid.mk' hbb; have d0 := (hbb.cell hbs).trans c0; have d1 := (hbb.cell hbs).trans c1; have d4 := (hbb.cell hbs).trans c4; have d5 := (hbb.cell hbs).trans c5; clear hbb) | (go_at_call 28; refine (KI.out _ (by first | exact HB.out | exact Below.refl _ _)).mono ?_; rintro e w9 ⟨rfl, hw9⟩; obtain rfl := hw9.symm) | (go_at_call 36; refine (KV.out _).mono ?_; rintro e w9 ⟨rfl, hw9⟩; obtain rfl := hw9.symm))
              go_ret
              exact ⟨by rw [E.out]; rfl, by first | exact HB.out | exact Below.refl _ _⟩
            | false =>
              rw [if_neg (by unfold holdB; rw [hh, hv]; simp)] at E0
              have KV := Hid.mk' (KV0.out (ndK l m).tg)
              rw [hv] at KV
              rw [if_neg (by rw [SU.out, HTG.out]; simp)] at E0
              clear SU
              by_cases q8 : (q : Int) ≥ 8
              · rw [if_pos (by omega)] at E0
                have E := Hid.mk' E0
                clear E0
                go_enter Try.func46, Try.ntmps46
                go_wp2_with (first | go_big_skip | (go_at_call 54; refine KK.out.mono ?_; rintro e w9 ⟨rfl, hw9⟩; obtain rfl := hw9.symm) | (go_at_call 55; refine KN.out.mono ?_; rintro e w9 ⟨rfl, hw9⟩; obtain rfl := hw9.symm) | (go_at_call 56; refine KA.out.mono ?_; rintro e w1 ⟨rfl, hbb⟩; have HB := Hid.mk' hbb; have d0 := (hbb.cell hbs).trans c0; have d1 := (hbb.cell hbs).trans c1; have d4 := (hbb.cell hbs).trans c4; have d5 := (hbb.cell hbs).trans c5; clear hbb) | (go_at_call 28; refine (KI.out _ (by first | exact HB.out | exact Below.refl _ _)).mono ?_; rintro e w9 ⟨rfl, hw9⟩; obtain rfl := hw9.symm) | (go_at_call 36; refine (KV.out _).mono ?_; rintro e w9 ⟨rfl, hw9⟩; obtain rfl := hw9.symm))
                go_quiet (fail)
                go_wp2_with (first | go_big_skip | (go_at_call 33; refine (KD.out _ (by first | exact below_drewN HB.out _ | exact below_drewN (Below.refl _ _) _)).mono ?_; rintro e w9 ⟨rfl, hw9⟩; obtain rfl := hw9.symm))
                go_ret
                exact ⟨by rw [E.out]; rfl, by first | exact below_drewN HB.out _ | exact below_drewN (Below.refl _ _) _⟩
              · rw [if_neg (by omega)] at E0
                have E := Hid.mk' E0
                clear E0
                go_enter Try.func46, Try.ntmps46
                go_wp2_with (first | go_big_skip | (go_at_call 54; refine KK.out.mono ?_; rintro e w9 ⟨rfl, hw9⟩; obtain rfl := hw9.symm) | (go_at_call 55; refine KN.out.mono ?_; rintro e w9 ⟨rfl, hw9⟩; obtain rfl := hw9.symm) | (go_at_call 56; refine KA.out.mono ?_; rintro e w1 ⟨rfl, hbb⟩; have HB := Hid.mk' hbb; have d0 := (hbb.cell hbs).trans c0; have d1 := (hbb.cell hbs).trans c1; have d4 := (hbb.cell hbs).trans c4; have d5 := (hbb.cell hbs).trans c5; clear hbb) | (go_at_call 28; refine (KI.out _ (by first | exact HB.out | exact Below.refl _ _)).mono ?_; rintro e w9 ⟨rfl, hw9⟩; obtain rfl := hw9.symm) | (go_at_call 36; refine (KV.out _).mono ?_; rintro e w9 ⟨rfl, hw9⟩; obtain rfl := hw9.symm))
                go_quiet (fail)
                go_wp2_with (first | go_big_skip | (go_at_call 33; refine (KD.out _ (by first | exact below_drewN HB.out _ | exact below_drewN (Below.refl _ _) _)).mono ?_; rintro e w9 ⟨rfl, hw9⟩; obtain rfl := hw9.symm))
                go_ret
                exact ⟨by rw [E.out]; rfl, by first | exact below_drewN HB.out _ | exact below_drewN (Below.refl _ _) _⟩
        · rw [if_neg (fun h => u0 h.1)] at E0
          rw [if_neg (by rw [SU.out, HTG.out]; simp)] at E0
          clear SU
          by_cases q8 : (q : Int) ≥ 8
          · rw [if_pos (by omega)] at E0
            have E := Hid.mk' E0
            clear E0
            go_enter Try.func46, Try.ntmps46
            go_wp2_with (first | go_big_skip | (go_at_call 54; refine KK.out.mono ?_; rintro e w9 ⟨rfl, hw9⟩; obtain rfl := hw9.symm) | (go_at_call 55; refine KN.out.mono ?_; rintro e w9 ⟨rfl, hw9⟩; obtain rfl := hw9.symm) | (go_at_call 56; refine KA.out.mono ?_; rintro e w1 ⟨rfl, hbb⟩; have HB := Hid.mk' hbb; have d0 := (hbb.cell hbs).trans c0; have d1 := (hbb.cell hbs).trans c1; clear hbb) | (go_at_call 28; refine (KI.out _ (by first | exact HB.out | exact Below.refl _ _)).mono ?_; rintro e w9 ⟨rfl, hw9⟩; obtain rfl := hw9.symm))
            go_quiet (fail)
            go_wp2_with (first | go_big_skip | (go_at_call 33; refine (KD.out _ (by first | exact below_drewN HB.out _ | exact below_drewN (Below.refl _ _) _)).mono ?_; rintro e w9 ⟨rfl, hw9⟩; obtain rfl := hw9.symm))
            go_ret
            exact ⟨by rw [E.out]; rfl, by first | exact below_drewN HB.out _ | exact below_drewN (Below.refl _ _) _⟩
          · rw [if_neg (by omega)] at E0
            have E := Hid.mk' E0
            clear E0
            go_enter Try.func46, Try.ntmps46
            go_wp2_with (first | go_big_skip | (go_at_call 54; refine KK.out.mono ?_; rintro e w9 ⟨rfl, hw9⟩; obtain rfl := hw9.symm) | (go_at_call 55; refine KN.out.mono ?_; rintro e w9 ⟨rfl, hw9⟩; obtain rfl := hw9.symm) | (go_at_call 56; refine KA.out.mono ?_; rintro e w1 ⟨rfl, hbb⟩; have HB := Hid.mk' hbb; have d0 := (hbb.cell hbs).trans c0; have d1 := (hbb.cell hbs).trans c1; clear hbb) | (go_at_call 28; refine (KI.out _ (by first | exact HB.out | exact Below.refl _ _)).mono ?_; rintro e w9 ⟨rfl, hw9⟩; obtain rfl := hw9.symm))
            go_quiet (fail)
            go_wp2_with (first | go_big_skip | (go_at_call 33; refine (KD.out _ (by first | exact below_drewN HB.out _ | exact below_drewN (Below.refl _ _) _)).mono ?_; rintro e w9 ⟨rfl, hw9⟩; obtain rfl := hw9.symm))
            go_ret
            exact ⟨by rw [E.out]; rfl, by first | exact below_drewN HB.out _ | exact below_drewN (Below.refl _ _) _⟩
    | true =>
      have MZ : markF (ndK l k) = 0 := by rw [MU.out, hkd, htg]; rfl
      clear MU KN KA
      have HTG := Hid.mk' htg
      have E0 := oneF_place MZ
      rw [PU.out] at E0
      clear PU MZ
      by_cases hd : depU (upF l) k < (wayU (upF l) k).length
      rotate_left
      · rw [if_neg hd] at E0
        have E := Hid.mk' E0
        rw [decide_eq_false hd] at KI0
        have KI := KI0
        clear E0 KI0 KD0 upb SU
        by_cases u1 : (ndK l k).up < -1
        · skip
          go_enter Try.func46, Try.ntmps46
          go_wp2_with (first | go_big_skip | (go_at_call 54; refine KK.out.mono ?_; rintro e w9 ⟨rfl, hw9⟩; obtain rfl := hw9.symm) | (go_at_call 28; refine (KI.out _ (by first | exact HB.out | exact Below.refl _ _)).mono ?_; rintro e w9 ⟨rfl, hw9⟩; obtain rfl := hw9.symm))
          go_ret
          exact ⟨by rw [E.out]; rfl, by first | exact HB.out | exact Below.refl _ _⟩
        by_cases u2 : (ndK l k).up ≥ (k : Int)
        · skip
          go_enter Try.func46, Try.ntmps46
          go_wp2_with (first | go_big_skip | (go_at_call 54; refine KK.out.mono ?_; rintro e w9 ⟨rfl, hw9⟩; obtain rfl := hw9.symm) | (go_at_call 28; refine (KI.out _ (by first | exact HB.out | exact Below.refl _ _)).mono ?_; rintro e w9 ⟨rfl, hw9⟩; obtain rfl := hw9.symm))
          go_ret
          exact ⟨by rw [E.out]; rfl, by first | exact HB.out | exact Below.refl _ _⟩
        go_enter Try.func46, Try.ntmps46
        go_wp2_with (first | go_big_skip | (go_at_call 54; refine KK.out.mono ?_; rintro e w9 ⟨rfl, hw9⟩; obtain rfl := hw9.symm) | (go_at_call 28; refine (KI.out _ (by first | exact HB.out | exact Below.refl _ _)).mono ?_; rintro e w9 ⟨rfl, hw9⟩; obtain rfl := hw9.symm))
        go_ret
        exact ⟨by rw [E.out]; rfl, by first | exact HB.out | exact Below.refl _ _⟩
      obtain ⟨ub1, ub2⟩ := upb hd
      have n1 : ¬ (ndK l k).up < -1 := by omega
      have n2 : ¬ (ndK l k).up ≥ (k : Int) := by omega
      rw [if_pos hd] at E0
      rw [decide_eq_true hd] at KI0
      have KI := KI0
      have KD := Hid.mk' (KD0.out hd)
      obtain ⟨q, hq⟩ : ∃ q, depU (upF l) k = q := ⟨_, rfl⟩
      rw [hq] at E0 KD
      clear KI0 KD0 upb ub1 hd hq
      by_cases u0 : (ndK l k).up ≥ 0
      · obtain ⟨m, hm⟩ : ∃ m : Nat, (ndK l k).up = (m : Int) := ⟨(ndK l k).up.toNat, by omega⟩
        rw [hm] at c0 n1 n2 KI E0 u0 ub2
        rw [hm] at SU
        rw [Int.toNat_natCast] at E0
        obtain ⟨c4, c5, _⟩ := HC.out m (by omega)
        have cm : (m : Int) < (l.length : Int) := by omega
        cases hh : ((ndK l m).tg.toList == []) with
        | true =>
          rw [if_pos ⟨u0, by unfold holdB; rw [hh]; rfl⟩] at E0
          have E := Hid.mk' E0
          clear E0 SU KD
          go_enter Try.func46, Try.ntmps46
          go_wp2_with (first | go_big_skip | (go_at_call 54; refine KK.out.mono ?_; rintro e w9 ⟨rfl, hw9⟩; obtain rfl := hw9.symm) | (go_at_call 28; refine (KI.out _ (by first | exact HB.out | exact Below.refl _ _)).mono ?_; rintro e w9 ⟨rfl, hw9⟩; obtain rfl := hw9.symm))
          go_ret
          exact ⟨by rw [E.out]; rfl, by first | exact HB.out | exact Below.refl _ _⟩
        | false =>
          cases hv : voidB (ndK l m).tg with
          | true =>
            rw [if_pos ⟨u0, by unfold holdB; rw [hh, hv]; rfl⟩] at E0
            have E := Hid.mk' E0
            have KV := Hid.mk' (KV0.out (ndK l m).tg)
            rw [hv] at KV
            clear E0 SU KD
            go_enter Try.func46, Try.ntmps46
            go_wp2_with (first | go_big_skip | (go_at_call 54; refine KK.out.mono ?_; rintro e w9 ⟨rfl, hw9⟩; obtain rfl := hw9.symm) | (go_at_call 28; refine (KI.out _ (by first | exact HB.out | exact Below.refl _ _)).mono ?_; rintro e w9 ⟨rfl, hw9⟩; obtain rfl := hw9.symm) | (go_at_call 36; refine (KV.out _).mono ?_; rintro e w9 ⟨rfl, hw9⟩; obtain rfl := hw9.symm))
            go_ret
            exact ⟨by rw [E.out]; rfl, by first | exact HB.out | exact Below.refl _ _⟩
          | false =>
            rw [if_neg (by unfold holdB; rw [hh, hv]; simp)] at E0
            have KV := Hid.mk' (KV0.out (ndK l m).tg)
            rw [hv] at KV
            obtain ⟨j, hj⟩ : ∃ j, k - 1 = j := ⟨_, rfl⟩
            have SV := SU.out
            rw [hj, decide_eq_true (show 0 < k by omega), HTG.out] at SV
            obtain ⟨c6, c7, _⟩ := HC.out j (by omega)
            have ej : y = (j : Int) := by omega
            subst ej
            have cj : (j : Int) < (l.length : Int) := by omega
            have HJ := Hid.mk' hj
            clear hj SU
            cases hpt : ((ndK l j).tg.toList == []) with
            | false =>
              rw [if_neg (by rw [SV, hpt]; simp)] at E0
              clear SV
              by_cases q8 : (q : Int) ≥ 8
              · rw [if_pos (by omega)] at E0
                have E := Hid.mk' E0
                clear E0
                go_enter Try.func46, Try.ntmps46
                go_wp2_with (first | go_big_skip | (go_at_call 54; refine KK.out.mono ?_; rintro e w9 ⟨rfl, hw9⟩; obtain rfl := hw9.symm) | (go_at_call 28; refine (KI.out _ (by first | exact HB.out | exact Below.refl _ _)).mono ?_; rintro e w9 ⟨rfl, hw9⟩; obtain rfl := hw9.symm) | (go_at_call 36; refine (KV.out _).mono ?_; rintro e w9 ⟨rfl, hw9⟩; obtain rfl := hw9.symm))
                go_quiet (fail)
                go_wp2_with (first | go_big_skip | (go_at_call 33; refine (KD.out _ (by first | exact below_drewN HB.out _ | exact below_drewN (Below.refl _ _) _)).mono ?_; rintro e w9 ⟨rfl, hw9⟩; obtain rfl := hw9.symm))
                go_ret
                exact ⟨by rw [E.out]; rfl, by first | exact below_drewN HB.out _ | exact below_drewN (Below.refl _ _) _⟩
              · rw [if_neg (by omega)] at E0
                have E := Hid.mk' E0
                clear E0
                go_enter Try.func46, Try.ntmps46
                go_wp2_with (first | go_big_skip | (go_at_call 54; refine KK.out.mono ?_; rintro e w9 ⟨rfl, hw9⟩; obtain rfl := hw9.symm) | (go_at_call 28; refine (KI.out _ (by first | exact HB.out | exact Below.refl _ _)).mono ?_; rintro e w9 ⟨rfl, hw9⟩; obtain rfl := hw9.symm) | (go_at_call 36; refine (KV.out _).mono ?_; rintro e w9 ⟨rfl, hw9⟩; obtain rfl := hw9.symm))
                go_quiet (fail)
                go_wp2_with (first | go_big_skip | (go_at_call 33; refine (KD.out _ (by first | exact below_drewN HB.out _ | exact below_drewN (Below.refl _ _) _)).mono ?_; rintro e w9 ⟨rfl, hw9⟩; obtain rfl := hw9.symm))
                go_ret
                exact ⟨by rw [E.out]; rfl, by first | exact below_drewN HB.out _ | exact below_drewN (Below.refl _ _) _⟩
            | true =>
              by_cases hup : (ndK l j).up = (m : Int)
              · rw [if_pos (by rw [SV, hpt, hup]; simp)] at E0
                have E := Hid.mk' E0
                rw [hup] at c6
                clear E0 SV hup KD
                go_enter Try.func46, Try.ntmps46
                go_wp2_with (first | go_big_skip | (go_at_call 54; refine KK.out.mono ?_; rintro e w9 ⟨rfl, hw9⟩; obtain rfl := hw9.symm) | (go_at_call 28; refine (KI.out _ (by first | exact HB.out | exact Below.refl _ _)).mono ?_; rintro e w9 ⟨rfl, hw9⟩; obtain rfl := hw9.symm) | (go_at_call 36; refine (KV.out _).mono ?_; rintro e w9 ⟨rfl, hw9⟩; obtain rfl := hw9.symm))
                go_quiet (fail)
                go_wp2_with (first | go_big_skip | (go_at_call 33; refine (KD.out _ (by first | exact below_drewN HB.out _ | exact below_drewN (Below.refl _ _) _)).mono ?_; rintro e w9 ⟨rfl, hw9⟩; obtain rfl := hw9.symm))
                go_ret
                exact ⟨by rw [E.out]; rfl, by first | exact below_drewN HB.out _ | exact below_drewN (Below.refl _ _) _⟩
              · skip
                rw [if_neg (by rw [SV, hpt, decide_eq_false hup]; simp)] at E0
                clear SV
                by_cases q8 : (q : Int) ≥ 8
                · rw [if_pos (by omega)] at E0
                  have E := Hid.mk' E0
                  clear E0
                  go_enter Try.func46, Try.ntmps46
                  go_wp2_with (first | go_big_skip | (go_at_call 54; refine KK.out.mono ?_; rintro e w9 ⟨rfl, hw9⟩; obtain rfl := hw9.symm) | (go_at_call 28; refine (KI.out _ (by first | exact HB.out | exact Below.refl _ _)).mono ?_; rintro e w9 ⟨rfl, hw9⟩; obtain rfl := hw9.symm) | (go_at_call 36; refine (KV.out _).mono ?_; rintro e w9 ⟨rfl, hw9⟩; obtain rfl := hw9.symm))
                  go_quiet (fail)
                  go_wp2_with (first | go_big_skip | (go_at_call 33; refine (KD.out _ (by first | exact below_drewN HB.out _ | exact below_drewN (Below.refl _ _) _)).mono ?_; rintro e w9 ⟨rfl, hw9⟩; obtain rfl := hw9.symm))
                  go_ret
                  exact ⟨by rw [E.out]; rfl, by first | exact below_drewN HB.out _ | exact below_drewN (Below.refl _ _) _⟩
                · rw [if_neg (by omega)] at E0
                  have E := Hid.mk' E0
                  clear E0
                  go_enter Try.func46, Try.ntmps46
                  go_wp2_with (first | go_big_skip | (go_at_call 54; refine KK.out.mono ?_; rintro e w9 ⟨rfl, hw9⟩; obtain rfl := hw9.symm) | (go_at_call 28; refine (KI.out _ (by first | exact HB.out | exact Below.refl _ _)).mono ?_; rintro e w9 ⟨rfl, hw9⟩; obtain rfl := hw9.symm) | (go_at_call 36; refine (KV.out _).mono ?_; rintro e w9 ⟨rfl, hw9⟩; obtain rfl := hw9.symm))
                  go_quiet (fail)
                  go_wp2_with (first | go_big_skip | (go_at_call 33; refine (KD.out _ (by first | exact below_drewN HB.out _ | exact below_drewN (Below.refl _ _) _)).mono ?_; rintro e w9 ⟨rfl, hw9⟩; obtain rfl := hw9.symm))
                  go_ret
                  exact ⟨by rw [E.out]; rfl, by first | exact below_drewN HB.out _ | exact below_drewN (Below.refl _ _) _⟩
      · rw [if_neg (fun h => u0 h.1)] at E0
        obtain ⟨j, hj⟩ : ∃ j, k - 1 = j := ⟨_, rfl⟩
        have SV := SU.out
        rw [hj, decide_eq_true (show 0 < k by omega), HTG.out] at SV
        obtain ⟨c6, c7, _⟩ := HC.out j (by omega)
        have ej : y = (j : Int) := by omega
        subst ej
        have cj : (j : Int) < (l.length : Int) := by omega
        have HJ := Hid.mk' hj
        clear hj SU
        cases hpt : ((ndK l j).tg.toList == []) with
        | false =>
          rw [if_neg (by rw [SV, hpt]; simp)] at E0
          clear SV
          by_cases q8 : (q : Int) ≥ 8
          · rw [if_pos (by omega)] at E0
            have E := Hid.mk' E0
            clear E0
            go_enter Try.func46, Try.ntmps46
            go_wp2_with (first | go_big_skip | (go_at_call 54; refine KK.out.mono ?_; rintro e w9 ⟨rfl, hw9⟩; obtain rfl := hw9.symm) | (go_at_call 28; refine (KI.out _ (by first | exact HB.out | exact Below.refl _ _)).mono ?_; rintro e w9 ⟨rfl, hw9⟩; obtain rfl := hw9.symm))
            go_quiet (fail)
            go_wp2_with (first | go_big_skip | (go_at_call 33; refine (KD.out _ (by first | exact below_drewN HB.out _ | exact below_drewN (Below.refl _ _) _)).mono ?_; rintro e w9 ⟨rfl, hw9⟩; obtain rfl := hw9.symm))
            go_ret
            exact ⟨by rw [E.out]; rfl, by first | exact below_drewN HB.out _ | exact below_drewN (Below.refl _ _) _⟩
          · rw [if_neg (by omega)] at E0
            have E := Hid.mk' E0
            clear E0
            go_enter Try.func46, Try.ntmps46
            go_wp2_with (first | go_big_skip | (go_at_call 54; refine KK.out.mono ?_; rintro e w9 ⟨rfl, hw9⟩; obtain rfl := hw9.symm) | (go_at_call 28; refine (KI.out _ (by first | exact HB.out | exact Below.refl _ _)).mono ?_; rintro e w9 ⟨rfl, hw9⟩; obtain rfl := hw9.symm))
            go_quiet (fail)
            go_wp2_with (first | go_big_skip | (go_at_call 33; refine (KD.out _ (by first | exact below_drewN HB.out _ | exact below_drewN (Below.refl _ _) _)).mono ?_; rintro e w9 ⟨rfl, hw9⟩; obtain rfl := hw9.symm))
            go_ret
            exact ⟨by rw [E.out]; rfl, by first | exact below_drewN HB.out _ | exact below_drewN (Below.refl _ _) _⟩
        | true =>
          by_cases hup : (ndK l j).up = (ndK l k).up
          · rw [if_pos (by rw [SV, hpt, hup]; simp)] at E0
            have E := Hid.mk' E0
            rw [hup] at c6
            clear E0 SV hup KD
            go_enter Try.func46, Try.ntmps46
            go_wp2_with (first | go_big_skip | (go_at_call 54; refine KK.out.mono ?_; rintro e w9 ⟨rfl, hw9⟩; obtain rfl := hw9.symm) | (go_at_call 28; refine (KI.out _ (by first | exact HB.out | exact Below.refl _ _)).mono ?_; rintro e w9 ⟨rfl, hw9⟩; obtain rfl := hw9.symm))
            go_quiet (fail)
            go_wp2_with (first | go_big_skip | (go_at_call 33; refine (KD.out _ (by first | exact below_drewN HB.out _ | exact below_drewN (Below.refl _ _) _)).mono ?_; rintro e w9 ⟨rfl, hw9⟩; obtain rfl := hw9.symm))
            go_ret
            exact ⟨by rw [E.out]; rfl, by first | exact below_drewN HB.out _ | exact below_drewN (Below.refl _ _) _⟩
          · skip
            rw [if_neg (by rw [SV, hpt, decide_eq_false hup]; simp)] at E0
            clear SV
            by_cases q8 : (q : Int) ≥ 8
            · rw [if_pos (by omega)] at E0
              have E := Hid.mk' E0
              clear E0
              go_enter Try.func46, Try.ntmps46
              go_wp2_with (first | go_big_skip | (go_at_call 54; refine KK.out.mono ?_; rintro e w9 ⟨rfl, hw9⟩; obtain rfl := hw9.symm) | (go_at_call 28; refine (KI.out _ (by first | exact HB.out | exact Below.refl _ _)).mono ?_; rintro e w9 ⟨rfl, hw9⟩; obtain rfl := hw9.symm))
              go_quiet (fail)
              go_wp2_with (first | go_big_skip | (go_at_call 33; refine (KD.out _ (by first | exact below_drewN HB.out _ | exact below_drewN (Below.refl _ _) _)).mono ?_; rintro e w9 ⟨rfl, hw9⟩; obtain rfl := hw9.symm))
              go_ret
              exact ⟨by rw [E.out]; rfl, by first | exact below_drewN HB.out _ | exact below_drewN (Below.refl _ _) _⟩
            · rw [if_neg (by omega)] at E0
              have E := Hid.mk' E0
              clear E0
              go_enter Try.func46, Try.ntmps46
              go_wp2_with (first | go_big_skip | (go_at_call 54; refine KK.out.mono ?_; rintro e w9 ⟨rfl, hw9⟩; obtain rfl := hw9.symm) | (go_at_call 28; refine (KI.out _ (by first | exact HB.out | exact Below.refl _ _)).mono ?_; rintro e w9 ⟨rfl, hw9⟩; obtain rfl := hw9.symm))
              go_quiet (fail)
              go_wp2_with (first | go_big_skip | (go_at_call 33; refine (KD.out _ (by first | exact below_drewN HB.out _ | exact below_drewN (Below.refl _ _) _)).mono ?_; rintro e w9 ⟨rfl, hw9⟩; obtain rfl := hw9.symm))
              go_ret
              exact ⟨by rw [E.out]; rfl, by first | exact below_drewN HB.out _ | exact below_drewN (Below.refl _ _) _⟩

theorem wayU_zero (u : Nat → Int) : wayU u 0 = [-1] := rfl

theorem place_zero {l : List ND} (h : (ndK l 0).up = -1) : placeF l 0 = 0 := by
  have d0 : depU (upF l) 0 = 0 := by simp [depU, wayU, ixF, upF, h]
  unfold placeF
  rw [d0, wayU_zero, if_pos (by simp), if_neg (by omega), if_neg (by simp [sideB]), if_neg (by omega)]

theorem place_zero' {l : List ND} (h : ¬ (ndK l 0).up = -1) : placeF l 0 = 3 := by
  have d0 : depU (upF l) 0 = 1 := by
    have h2 : ¬ (-1 : Int) = (ndK l 0).up := fun e => h e.symm
    simp [depU, wayU, ixF, upF, h2]
  unfold placeF
  rw [d0, wayU_zero, if_neg (by simp)]

set_option maxHeartbeats 8000000 in
theorem l6One_zero (a : Option Addr) (c : Nat) (l : List ND) (w : World) (ha : NsAt w a l) (hk : 0 < l.length) (hl : (l.length : Int) + nssz l ≤ 1048576) :
    Calls Try.prog 46 #[.slice a l.length c, .int .i64 0] w fun e w' => e = .returned (.int .i64 (oneF l 0)) ∧ Below w.heap.size w w' := by
  have hlen : (l.length : Int) ≤ 1048576 := by omega
  have KI0 : Hid ((ndK l 0).up = -1 → ∀ w', Below w.heap.size w w' → Calls Try.prog 28 #[.slice a l.length c, .int .i64 (-1), .int .i64 (-1)] w' fun e w'' => e = .returned (.bool true) ∧ w'' = w') := fun hu w' hb => by
    have := l6In_any a c l 0 (-1) w' (ha.below hb) (by omega) (fun j hj => absurd hj (Nat.not_lt_zero _)) hlen
    exact this
  have KD0 : Hid ((ndK l 0).up = -1 → ∀ w', Below w.heap.size w w' → Calls Try.prog 33 #[.slice a l.length c, .int .i64 0] w' fun e w'' => e = .returned (.int .i64 0) ∧ w'' = w') := fun hu w' hb => by
    have d0 : depU (upF l) 0 = 0 := by simp [depU, wayU, ixF, upF, hu]
    have := l6Depth_any a c l 0 w' (ha.below hb) hk (fun j hj => absurd hj (Nat.not_lt_zero _)) (by rw [d0]; simp [wayU]) hlen
    rw [d0] at this
    exact this
  have hsz := nssz_at hk
  rcases ha with ha | ⟨b, o, rfl, hbs, hc⟩
  · rw [ha] at hk; exact absurd hk (Nat.not_lt_zero _)
  obtain ⟨c0, c1, ⟨p, d, c2, hd, hA⟩, ⟨p', d', c3, _⟩⟩ := hc 0 hk
  rw [Nat.zero_mul, Nat.add_zero] at c0 c1 c2 c3
  have ck : (0 : Int) < (l.length : Int) := by omega
  have KK := l6Kind_any (ndK l 0) b o p p' d d' w c1 c2 c3
  have KN := l4Name_any (ndK l 0).tg w (by unfold nsz at hsz; omega)
  have KA := l4Attrs_any p d (ndK l 0).at_ w hA hd (by unfold nsz at hsz; omega)
  have MU := Hid.mk' (show markF (ndK l 0) = if kindB (ndK l 0) = true then (if ((ndK l 0).tg.toList == []) = true then 0 else if nmB (ndK l 0).tg = true then afault (ndK l 0).at_ else 5) else 1 from rfl)
  clear hc hA hsz
  cases hkd : kindB (ndK l 0) with
  | false =>
    rw [hkd] at KK
    have KK := Hid.mk' KK
    have E : Hid (oneF l 0 = 1) := Hid.mk' (oneF_mark (by rw [MU.out, hkd]; rfl) (by decide))
    clear KN KA
    go_enter Try.func46, Try.ntmps46
    go_wp2_with (first | go_big_skip | (go_at_call 54; refine KK.out.mono ?_; rintro e w9 ⟨rfl, hw9⟩; obtain rfl := hw9.symm))
    go_ret
    exact ⟨by rw [E.out]; rfl, by first | exact HB.out | exact Below.refl _ _⟩
  | true =>
    rw [hkd] at KK
    have KK := Hid.mk' KK
    cases htg : ((ndK l 0).tg.toList == []) with
    | false =>
      cases hnm : nmB (ndK l 0).tg with
      | false =>
        rw [hnm] at KN
        have KN := Hid.mk' KN
        have E : Hid (oneF l 0 = 5) := Hid.mk' (oneF_mark (by rw [MU.out, hkd, htg, hnm]; rfl) (by decide))
        clear KA
        go_enter Try.func46, Try.ntmps46
        go_wp2_with (first | go_big_skip | (go_at_call 54; refine KK.out.mono ?_; rintro e w9 ⟨rfl, hw9⟩; obtain rfl := hw9.symm) | (go_at_call 55; refine KN.out.mono ?_; rintro e w9 ⟨rfl, hw9⟩; obtain rfl := hw9.symm))
        go_ret
        exact ⟨by rw [E.out]; rfl, by first | exact HB.out | exact Below.refl _ _⟩
      | true =>
        rw [hnm] at KN
        have KN := Hid.mk' KN
        obtain ⟨f, hf⟩ : ∃ f, afault (ndK l 0).at_ = f := ⟨_, rfl⟩
        rw [hf] at KA
        have KA := Hid.mk' KA
        by_cases hf0 : f = 0
        rotate_left
        · have E : Hid (oneF l 0 = f) := Hid.mk' (oneF_mark (by rw [MU.out, hkd, htg, hnm, ← hf]; rfl) hf0)
          go_enter Try.func46, Try.ntmps46
          go_wp2_with (first | go_big_skip | (go_at_call 54; refine KK.out.mono ?_; rintro e w9 ⟨rfl, hw9⟩; obtain rfl := hw9.symm) | (go_at_call 55; refine KN.out.mono ?_; rintro e w9 ⟨rfl, hw9⟩; obtain rfl := hw9.symm) | (go_at_call 56; refine KA.out.mono ?_; rintro e w1 ⟨rfl, hbb⟩; have HB := Hid.mk' hbb; clear hbb))
          go_ret
          exact ⟨by rw [E.out]; rfl, by first | exact HB.out | exact Below.refl _ _⟩
        rw [hf0] at KA
        have MZ : markF (ndK l 0) = 0 := by rw [MU.out, hkd, htg, hnm, ← hf0, ← hf]; rfl
        clear hf0 hf MU
        have E0 := oneF_place MZ
        by_cases hu : (ndK l 0).up = -1
        rotate_left
        · rw [place_zero' hu] at E0
          have E := Hid.mk' E0
          clear E0 KI0 KD0 MZ
          by_cases u1 : (ndK l 0).up < -1
          · skip
            go_enter Try.func46, Try.ntmps46
            go_wp2_with (first | go_big_skip | (go_at_call 54; refine KK.out.mono ?_; rintro e w9 ⟨rfl, hw9⟩; obtain rfl := hw9.symm) | (go_at_call 55; refine KN.out.mono ?_; rintro e w9 ⟨rfl, hw9⟩; obtain rfl := hw9.symm) | (go_at_call 56; refine KA.out.mono ?_; rintro e w1 ⟨rfl, hbb⟩; have HB := Hid.mk' hbb; have d0 := (hbb.cell hbs).trans c0; have d1 := (hbb.cell hbs).trans c1; clear hbb))
            go_ret
            exact ⟨by rw [E.out]; rfl, by first | exact HB.out | exact Below.refl _ _⟩
          have u2 : (ndK l 0).up ≥ 0 := by omega
          go_enter Try.func46, Try.ntmps46
          go_wp2_with (first | go_big_skip | (go_at_call 54; refine KK.out.mono ?_; rintro e w9 ⟨rfl, hw9⟩; obtain rfl := hw9.symm) | (go_at_call 55; refine KN.out.mono ?_; rintro e w9 ⟨rfl, hw9⟩; obtain rfl := hw9.symm) | (go_at_call 56; refine KA.out.mono ?_; rintro e w1 ⟨rfl, hbb⟩; have HB := Hid.mk' hbb; have d0 := (hbb.cell hbs).trans c0; have d1 := (hbb.cell hbs).trans c1; clear hbb))
          go_ret
          exact ⟨by rw [E.out]; rfl, by first | exact HB.out | exact Below.refl _ _⟩
        rw [place_zero hu] at E0
        have E := Hid.mk' E0
        have KI := Hid.mk' (KI0.out hu)
        have KD := Hid.mk' (KD0.out hu)
        rw [hu] at c0
        clear E0 KI0 KD0 MZ hu
        go_enter Try.func46, Try.ntmps46
        go_wp2_with (first | go_big_skip | (go_at_call 54; refine KK.out.mono ?_; rintro e w9 ⟨rfl, hw9⟩; obtain rfl := hw9.symm) | (go_at_call 55; refine KN.out.mono ?_; rintro e w9 ⟨rfl, hw9⟩; obtain rfl := hw9.symm) | (go_at_call 56; refine KA.out.mono ?_; rintro e w1 ⟨rfl, hbb⟩; have HB := Hid.mk' hbb; have d0 := (hbb.cell hbs).trans c0; have d1 := (hbb.cell hbs).trans c1; clear hbb) | (go_at_call 28; refine (KI.out _ (by first | exact HB.out | exact Below.refl _ _)).mono ?_; rintro e w9 ⟨rfl, hw9⟩; obtain rfl := hw9.symm))
        go_quiet (fail)
        go_wp2_with (first | go_big_skip | (go_at_call 33; refine (KD.out _ (by first | exact below_drewN HB.out _ | exact below_drewN (Below.refl _ _) _)).mono ?_; rintro e w9 ⟨rfl, hw9⟩; obtain rfl := hw9.symm))
        go_ret
        exact ⟨by rw [E.out]; rfl, by first | exact below_drewN HB.out _ | exact below_drewN (Below.refl _ _) _⟩
    | true =>
      have MZ : markF (ndK l 0) = 0 := by rw [MU.out, hkd, htg]; rfl
      clear MU KN KA
      have E0 := oneF_place MZ
      by_cases hu : (ndK l 0).up = -1
      rotate_left
      · rw [place_zero' hu] at E0
        have E := Hid.mk' E0
        clear E0 KI0 KD0 MZ
        by_cases u1 : (ndK l 0).up < -1
        · skip
          go_enter Try.func46, Try.ntmps46
          go_wp2_with (first | go_big_skip | (go_at_call 54; refine KK.out.mono ?_; rintro e w9 ⟨rfl, hw9⟩; obtain rfl := hw9.symm))
          go_ret
          exact ⟨by rw [E.out]; rfl, by first | exact HB.out | exact Below.refl _ _⟩
        have u2 : (ndK l 0).up ≥ 0 := by omega
        go_enter Try.func46, Try.ntmps46
        go_wp2_with (first | go_big_skip | (go_at_call 54; refine KK.out.mono ?_; rintro e w9 ⟨rfl, hw9⟩; obtain rfl := hw9.symm))
        go_ret
        exact ⟨by rw [E.out]; rfl, by first | exact HB.out | exact Below.refl _ _⟩
      rw [place_zero hu] at E0
      have E := Hid.mk' E0
      have KI := Hid.mk' (KI0.out hu)
      have KD := Hid.mk' (KD0.out hu)
      rw [hu] at c0
      clear E0 KI0 KD0 MZ hu
      go_enter Try.func46, Try.ntmps46
      go_wp2_with (first | go_big_skip | (go_at_call 54; refine KK.out.mono ?_; rintro e w9 ⟨rfl, hw9⟩; obtain rfl := hw9.symm) | (go_at_call 28; refine (KI.out _ (by first | exact HB.out | exact Below.refl _ _)).mono ?_; rintro e w9 ⟨rfl, hw9⟩; obtain rfl := hw9.symm))
      go_quiet (fail)
      go_wp2_with (first | go_big_skip | (go_at_call 33; refine (KD.out _ (by first | exact below_drewN HB.out _ | exact below_drewN (Below.refl _ _) _)).mono ?_; rintro e w9 ⟨rfl, hw9⟩; obtain rfl := hw9.symm))
      go_ret
      exact ⟨by rw [E.out]; rfl, by first | exact below_drewN HB.out _ | exact below_drewN (Below.refl _ _) _⟩

theorem l6One_any (a : Option Addr) (c : Nat) (l : List ND) (k : Nat) (w : World) (ha : NsAt w a l) (hk : k < l.length) (hW : Ways l k) (hl : (l.length : Int) + nssz l ≤ 1048576) :
    Calls Try.prog 46 #[.slice a l.length c, .int .i64 (k : Int)] w fun e w' => e = .returned (.int .i64 (oneF l k)) ∧ Below w.heap.size w w' := by
  rcases Nat.eq_zero_or_pos k with h | h
  · subst h; exact l6One_zero a c l w ha hk hl
  · exact l6One_pos a c l k w ha hk h hW hl

end Go.Proofs.Ytlaeomnacgjcgaa

namespace Go.Proofs.Ytlaeomnacgjcgaa
open Go.RowKit

def mkK (t : ND) : Int := if kindB t = true then (if (t.tg.toList == []) = true then 2 else 1) else 0
def mkS (t : ND) : ByteArray := if mkK t = 1 then t.tg else ⟨#[]⟩
def mkV (t : ND) (v : Value) : Value := if mkK t = 1 then v else .slice none 0 0

theorem mkK_cases (t : ND) : (kindB t = false ∧ mkK t = 0) ∨ (kindB t = true ∧ (t.tg.toList == []) = true ∧ mkK t = 2) ∨ (kindB t = true ∧ (t.tg.toList == []) = false ∧ mkK t = 1) := by
  unfold mkK
  cases h1 : kindB t
  · simp
  · cases h2 : (t.tg.toList == []) <;> simp

set_option maxHeartbeats 3200000 in
theorem markOf_any (t : ND) (a p : Option Addr) (c d : Nat) (w : World) :
    Calls Try.prog 39 #[.agg #[.int .i64 t.up, .string t.tg, .slice a t.at_.length c, .slice p t.tx.length d]] w fun e w' => e = .returned (.agg #[.int .i64 (mkK t), .string (mkS t), mkV t (.slice a t.at_.length c)]) ∧ Below w.heap.size w w' := by
  obtain ⟨n, hn⟩ : ∃ n, t.at_.length = n := ⟨_, rfl⟩
  obtain ⟨m, hm⟩ : ∃ m, t.tx.length = m := ⟨_, rfl⟩
  have E : kindB t = if (t.tg.toList == []) = true then decide (n = 0) && decide (1 ≤ (m : Int)) && decide ((m : Int) ≤ 240) else decide (m = 0) := by
    unfold kindB
    rw [hm, hn]
  have EE := Hid.mk' E
  rw [hn, hm]
  clear E hn hm
  have z : ∀ k, mkK t = k → ¬ k = 1 → Value.agg #[.int .i64 (mkK t), .string (mkS t), mkV t (.slice a n c)] = .agg #[.int .i64 k, .string ⟨#[]⟩, .slice none 0 0] := fun k h h1 => by unfold mkS mkV; rw [h, if_neg h1, if_neg h1]
  cases e1 : (t.tg.toList == [])
  · by_cases e2 : (m : Int) = 0
    · have E : Hid (Value.agg #[.int .i64 (mkK t), .string (mkS t), mkV t (.slice a n c)] = .agg #[.int .i64 1, .string t.tg, .slice a n c]) := Hid.mk' (by
        have h : mkK t = 1 := by unfold mkK; rw [EE.out, e1, decide_eq_true (show m = 0 by omega)]; rfl
        unfold mkS mkV; rw [h, if_pos rfl, if_pos rfl])
      go_enter Try.func39, Try.ntmps39
      go_wp2_with go_big_skip
      refine bodyPost_ret (v := .agg #[.int .i64 1, .string t.tg, .slice a n c]) (by simp [results, Try.results39, go_sem, *]) rfl ?_
      exact ⟨by rw [E.out], ((below_new _ _).alloc (by simp) _)⟩
    · have E := Hid.mk' (z 0 (by unfold mkK; rw [EE.out, e1, decide_eq_false (show ¬ m = 0 by omega)]; rfl) (by omega))
      clear z
      go_enter Try.func39, Try.ntmps39
      go_wp2_with go_big_skip
      refine bodyPost_ret (v := .agg #[.int .i64 0, .string ⟨#[]⟩, .slice none 0 0]) (by simp [results, Try.results39, go_sem, *]) rfl ?_
      exact ⟨by rw [E.out], ((below_new _ _).alloc (by simp) _)⟩
  · by_cases e2 : (n : Int) = 0
    · by_cases e3 : (m : Int) ≥ 1
      · by_cases e4 : (m : Int) ≤ 240
        · have E := Hid.mk' (z 2 (by unfold mkK; rw [EE.out, e1, decide_eq_true (show n = 0 by omega), decide_eq_true (show 1 ≤ (m : Int) by omega), decide_eq_true e4]; rfl) (by omega))
          clear z
          go_enter Try.func39, Try.ntmps39
          go_wp2_with go_big_skip
          refine bodyPost_ret (v := .agg #[.int .i64 2, .string ⟨#[]⟩, .slice none 0 0]) (by simp [results, Try.results39, go_sem, *]) rfl ?_
          exact ⟨by rw [E.out], ((below_new _ _).alloc (by simp) _)⟩
        · skip
          have E := Hid.mk' (z 0 (by unfold mkK; rw [EE.out, e1, decide_eq_false e4]; simp) (by omega))
          clear z
          go_enter Try.func39, Try.ntmps39
          go_wp2_with go_big_skip
          refine bodyPost_ret (v := .agg #[.int .i64 0, .string ⟨#[]⟩, .slice none 0 0]) (by simp [results, Try.results39, go_sem, *]) rfl ?_
          exact ⟨by rw [E.out], ((below_new _ _).alloc (by simp) _)⟩
      · skip
        have E := Hid.mk' (z 0 (by unfold mkK; rw [EE.out, e1, decide_eq_false (show ¬ 1 ≤ (m : Int) by omega)]; simp) (by omega))
        clear z
        go_enter Try.func39, Try.ntmps39
        go_wp2_with go_big_skip
        refine bodyPost_ret (v := .agg #[.int .i64 0, .string ⟨#[]⟩, .slice none 0 0]) (by simp [results, Try.results39, go_sem, *]) rfl ?_
        exact ⟨by rw [E.out], ((below_new _ _).alloc (by simp) _)⟩
    · skip
      have E := Hid.mk' (z 0 (by unfold mkK; rw [EE.out, e1, decide_eq_false (show ¬ n = 0 by omega)]; simp) (by omega))
      clear z
      go_enter Try.func39, Try.ntmps39
      go_wp2_with go_big_skip
      refine bodyPost_ret (v := .agg #[.int .i64 0, .string ⟨#[]⟩, .slice none 0 0]) (by simp [results, Try.results39, go_sem, *]) rfl ?_
      exact ⟨by rw [E.out], ((below_new _ _).alloc (by simp) _)⟩

set_option maxHeartbeats 1600000 in
theorem isText_any (k : Int) (s : ByteArray) (v : Value) (w : World) :
    Calls Try.prog 49 #[.agg #[.int .i64 k, .string s, v]] w fun e w' => e = .returned (.bool (decide (k = 2))) ∧ Below w.heap.size w w' := by
  go_enter Try.func49, Try.ntmps49
  go_wp2
  go_ret
  exact ⟨by by_cases h : k = 2 <;> simp [h], below_new _ _⟩

set_option maxHeartbeats 1600000 in
theorem mayHold_any (k : Int) (s : ByteArray) (v : Value) (w : World) :
    Calls Try.prog 48 #[.agg #[.int .i64 k, .string s, v]] w fun e w' => e = .returned (.bool (decide (k = 1) && !voidB s)) ∧ Below w.heap.size w w' := by
  have KV : Hid (∀ w', Calls Try.prog 19 #[.string s] w' fun e w'' => e = .returned (.bool (voidB s)) ∧ w'' = w') := fun w' => implVoid_any s w'
  by_cases h : k = 1
  · subst h
    go_enter Try.func48, Try.ntmps48
    go_wp2_with (first | go_big_skip | (go_at_call 19; refine (KV.out _).mono ?_; rintro e w9 ⟨rfl, hw9⟩; obtain rfl := hw9.symm))
    go_ret
    exact ⟨by simp, below_new _ _⟩
  · go_enter Try.func48, Try.ntmps48
    go_wp2_with (first | go_big_skip | (go_at_call 19; refine (KV.out _).mono ?_; rintro e w9 ⟨rfl, hw9⟩; obtain rfl := hw9.symm))
    go_ret
    exact ⟨by simp [h], below_new _ _⟩

theorem tf_start (s : ByteArray) (l : List AT) : tfault ⟨2, 0, s, l, false⟩ = if nmB s = true then afault l else 5 := by
  unfold tfault tform
  cases h : nmB s <;> simp [h]

set_option maxHeartbeats 3200000 in
theorem fault_any (t : ND) (a : Option Addr) (c : Nat) (w : World) (ha : AAt w a t.at_) (hl : (nsz t : Int) ≤ 1048576) :
    Calls Try.prog 47 #[.agg #[.int .i64 (mkK t), .string (mkS t), mkV t (.slice a t.at_.length c)]] w fun e w' => e = .returned (.int .i64 (markF t)) ∧ Below w.heap.size w w' := by
  rcases mkK_cases t with ⟨h1, h2⟩ | ⟨h1, h2, h3⟩ | ⟨h1, h2, h3⟩
  · have E : Hid (markF t = 1) := Hid.mk' (by unfold markF; rw [h1]; rfl)
    unfold mkS mkV
    rw [h2, if_neg (by omega), if_neg (by omega)]
    go_enter Try.func47, Try.ntmps47
    go_wp2
    go_ret
    exact ⟨by rw [E.out]; rfl, below_new _ _⟩
  · have E : Hid (markF t = 0) := Hid.mk' (by unfold markF; rw [h1, h2]; rfl)
    unfold mkS mkV
    rw [h3, if_neg (by omega), if_neg (by omega)]
    go_enter Try.func47, Try.ntmps47
    go_wp2
    go_ret
    exact ⟨by rw [E.out]; rfl, below_new _ _⟩
  · have E : Hid (markF t = tfault ⟨2, 0, t.tg, t.at_, false⟩) := Hid.mk' (by rw [tf_start]; unfold markF; rw [h1, h2]; rfl)
    have KT : Hid (∀ w', Below w.heap.size w w' → Calls Try.prog 57 #[.agg #[.int .i64 2, .int .i64 0, .string t.tg, .slice a t.at_.length c, .bool false]] w' fun e w'' => e = .returned (.int .i64 (tfault ⟨2, 0, t.tg, t.at_, false⟩)) ∧ Below w'.heap.size w' w'') := fun w' hb => implTF_any ⟨2, 0, t.tg, t.at_, false⟩ a c w' (ha.below hb) (by unfold nsz at hl; show (t.tg.size : Int) ≤ _; omega) (by unfold nsz at hl; show (t.at_.length : Int) + asz t.at_ ≤ _; omega)
    unfold mkS mkV
    rw [h3, if_pos rfl, if_pos rfl]
    generalize tfault ⟨2, 0, t.tg, t.at_, false⟩ = f at *
    have HB := Hid.mk' ((below_new w (.cells #[.int .i64 1, .string t.tg, .slice a t.at_.length c] 56)))
    clear ha h1 h2 h3
    go_enter Try.func47, Try.ntmps47
    go_wp2_with fail
    refine (KT.out _ (by first | exact HB.out | exact HB.out.alloc (by simp) _)).mono ?_
    rintro e w1 ⟨rfl, hb⟩
    have HC := Hid.mk' hb
    clear hb KT
    go_wp2
    go_ret
    exact ⟨by rw [E.out]; rfl, by first | exact HB.out.trans (HC.out.mono HB.out.size) | exact (HB.out.alloc (by simp) _).trans (HC.out.mono (HB.out.alloc (by simp) _).size)⟩

end Go.Proofs.Ytlaeomnacgjcgaa

namespace Go.Proofs.Ytlaeomnacgjcgaa
open Go.RowKit

def IAt (w : World) (a : Option Addr) (l : List Int) : Prop :=
  l = [] ∨ ∃ b o, a = some ⟨b, o, none⟩ ∧ b < w.heap.size ∧ ∀ k, k < l.length → w.cell? ⟨b, o + k, none⟩ = some (.int .i64 (wv l k))

theorem IAt.below {w w' : World} {a : Option Addr} {l : List Int} (h : IAt w a l) (hb : Below w.heap.size w w') : IAt w' a l := by
  rcases h with h | ⟨b, o, ha, hl, hc⟩
  · exact .inl h
  · exact .inr ⟨b, o, ha, Nat.lt_of_lt_of_le hl hb.size, fun k hk => (hb.cell hl).trans (hc k hk)⟩

def ixI (l : List Int) (x : Int) : Int := if ixF l x < l.length then (ixF l x : Int) else -1

set_option maxHeartbeats 1600000 in
theorem indexI_any (a : Option Addr) (c : Nat) (l : List Int) (x : Int) (w : World) (ha : IAt w a l) (hl : (l.length : Int) ≤ 1048576) :
    Calls Try.prog 40 #[.slice a l.length c, .int .i64 x] w fun e w' => e = .returned (.int .i64 (ixI l x)) ∧ w' = w := by
  go_enter Try.func40, Try.ntmps40
  go_wp2
  go_loop [8] (fun i => ∃ k : Nat, k ≤ l.length ∧ i = .int .i64 k ∧ ∀ j, j < k → ¬ wv l j = x) (fun i => l.length - (intOf i).toNat)
  case atStart => exact ⟨0, Nat.zero_le _, rfl, fun j h => absurd h (Nat.not_lt_zero _)⟩
  case round =>
    obtain ⟨k, hk, rfl, hn⟩ := hrel
    have HN := Hid.mk' hn
    clear hn
    by_cases hlt : k < l.length
    · have ci : (k : Int) < (l.length : Int) := by omega
      rcases ha with ha | ⟨b, o, rfl, hbs, hc⟩
      · exact absurd hlt (by rw [ha]; exact Nat.not_lt_zero _)
      have h1 := hc k hlt
      clear hc
      by_cases e : wv l k = x
      · have E : Hid (ixI l x = (k : Int)) := Hid.mk' (by
          unfold ixI
          rw [ixF_found l x k hlt HN.out e, if_pos hlt])
        rw [e] at h1
        clear e
        go_wp2
        go_ret
        exact ⟨by rw [E.out]; rfl, rfl⟩
      · have e' : ¬ x = wv l k := fun h => e h.symm
        have EE := Hid.mk' e
        clear e
        go_wp2
        go_round
        case rel => exact ⟨k + 1, by omega, by go_num, fun j hj => by
          by_cases h : j = k
          · subst h; exact EE.out
          · exact HN.out j (by omega)⟩
        case measure => simp [intOf]; omega
    · have ci : ¬ (k : Int) < (l.length : Int) := by omega
      have e : k = l.length := by omega
      subst e
      have E : Hid (ixI l x = -1) := Hid.mk' (by
        unfold ixI
        rw [ixF_none l x HN.out, if_neg (Nat.lt_irrefl _)])
      go_wp2
      go_ret
      exact ⟨by rw [E.out]; rfl, rfl⟩

def pcell (l : List ND) (va : Nat → Value) (j : Nat) : List Value := [.int .i64 (mkK (ndK l j)), .string (mkS (ndK l j)), mkV (ndK l j) (va j), .int .i64 (ndK l j).up, .int .i64 (depU (upF l) j : Int)]

def pcs5 (l : List ND) (va : Nat → Value) : Nat → List Value
  | 0 => []
  | k + 1 => pcs5 l va k ++ pcell l va k

theorem pcs5_len (l : List ND) (va : Nat → Value) : ∀ k, (pcs5 l va k).length = k * 5
  | 0 => rfl
  | k + 1 => by simp [pcs5, pcs5_len l va k, pcell]; omega

theorem pcs5_get (l : List ND) (va : Nat → Value) : ∀ (k j i : Nat), j < k → i < 5 → (pcs5 l va k)[j * 5 + i]? = (pcell l va j)[i]?
  | 0, _, _, h, _ => absurd h (Nat.not_lt_zero _)
  | k + 1, j, i, h, hi => by
    unfold pcs5
    by_cases e : j = k
    · subst e
      rw [List.getElem?_append_right (by rw [pcs5_len]; omega), pcs5_len, show j * 5 + i - j * 5 = i by omega]
    · rw [List.getElem?_append_left (by rw [pcs5_len]; omega)]
      exact pcs5_get l va k j i (by omega) hi

def sv (l : List ND) (pa : Nat → Option Addr) (ca : Nat → Nat) (j : Nat) : Value := .slice (pa j) (ndK l j).at_.length (ca j)

theorem mkV_one (t : ND) (l : List ND) (pa : Nat → Option Addr) (ca : Nat → Nat) (j : Nat) : (mkV t (sv l pa ca j)).oneCell' = true := by
  unfold mkV sv; split <;> rfl

theorem pcell_one (l : List ND) (pa : Nat → Option Addr) (ca : Nat → Nat) (j : Nat) : ∀ u ∈ pcell l (sv l pa ca) j, u.oneCell' = true := by
  intro u hu
  simp only [pcell, List.mem_cons, List.not_mem_nil, or_false] at hu
  rcases hu with rfl | rfl | rfl | rfl | rfl
  · rfl
  · rfl
  · exact mkV_one _ _ _ _ _
  · rfl
  · rfl

def ics (l : List Int) : List Value := l.map (Value.int .i64)
theorem ics_len (l : List Int) : (ics l).length = l.length * 1 := by simp [ics]
theorem ics_one (l : List Int) : ∀ u ∈ ics l, u.oneCell' = true := by
  intro u hu; simp [ics] at hu; obtain ⟨x, _, rfl⟩ := hu; rfl
theorem ics_get (l : List Int) (j : Nat) (h : j < l.length) : (ics l)[j]? = some (.int .i64 (wv l j)) := by simp [ics, wv, h]

theorem own_spot {w : World} {base : Nat} {e : TypeId} {size : Nat} {v : Value} {n : Nat} {xs : List Value} (h : w.ownsRow base e size v n xs) (hn : 0 < n) : ∃ g cap, v = .slice (some ⟨g, 0, none⟩) n cap ∧ base ≤ g ∧ g < w.heap.size ∧ n ≤ cap ∧ ∀ i, i < n * size → w.cell? ⟨g, i, none⟩ = xs[i]? := by
  rcases h.2 with ⟨rfl, h0⟩ | ⟨g, cap, cur, rfl, hg, hh, hc, hm, hs, ht⟩
  · omega
  · refine ⟨g, cap, rfl, hg, ?_, hc, fun i hi => ?_⟩
    · exact Nat.lt_of_not_le fun hn => by rw [Array.getElem?_eq_none hn] at hh; cases hh
    · have q : w.cell? ⟨g, i, none⟩ = cur[i]? := Lib.cell_of_heap hh i
      rw [q, ← ht, List.getElem?_take_of_lt hi]
      simp

theorem own_take {w : World} {base g cap n m : Nat} {e : TypeId} {size : Nat} {xs : List Value} (h : w.ownsRow base e size (.slice (some ⟨g, 0, none⟩) n cap) n xs) (hm : m ≤ n) : w.ownsRow base e size (.slice (some ⟨g, 0, none⟩) m cap) m (xs.take (m * size)) := by
  have hle : m * size ≤ n * size := Nat.mul_le_mul_right _ hm
  refine ⟨by rw [List.length_take, h.1]; omega, .inr ?_⟩
  rcases h.2 with ⟨h0, _⟩ | ⟨g', cap', cur, hv, hg, hh, hc, hml, hs, ht⟩
  · cases h0
  · cases hv
    exact ⟨g, cap, cur, rfl, hg, hh, by omega, hml, hs, by rw [← ht, List.take_take, Nat.min_eq_left hle]⟩

theorem own_iat {w : World} {base : Nat} {v : Value} {l : List Int} (h : w.ownsRow base 2 1 v l.length (ics l)) (hn : 0 < l.length) : ∃ g cap, v = .slice (some ⟨g, 0, none⟩) l.length cap ∧ base ≤ g ∧ g < w.heap.size ∧ l.length ≤ cap ∧ IAt w (some ⟨g, 0, none⟩) l := by
  obtain ⟨g, cap, e, h1, h2, h3, h4⟩ := own_spot h hn
  exact ⟨g, cap, e, h1, h2, h3, .inr ⟨g, 0, rfl, h2, fun k hk => by rw [Nat.zero_add, h4 k (by omega)]; exact ics_get l k hk⟩⟩

structure TT (w0 : World) (base g : Nat) (l : List ND) (pa : Nat → Option Addr) (ca : Nat → Nat) (k : Nat) (vn vw : Value) (w : World) : Prop where
  box : w.rowIs g 47 2 (p2 vn vw)
  on : w.ownsRow base 58 5 vn k (pcs5 l (sv l pa ca) k)
  ow : w.ownsRow base 2 1 vw (wayU (upF l) k).length (ics (wayU (upF l) k))
  ap : Ap vn vw
  an : ¬ vn.ownBlock = some g
  aw : ¬ vw.ownBlock = some g
  bl : Below base w0 w
  sz : base ≤ w.heap.size
  bg : base ≤ g

theorem TT.below {w0 w w' : World} {base g : Nat} {l : List ND} {pa : Nat → Option Addr} {ca : Nat → Nat} {k : Nat} {vn vw : Value} (h : TT w0 base g l pa ca k vn vw w) (hb : Below w.heap.size w w') : TT w0 base g l pa ca k vn vw w' :=
  ⟨rowB h.box hb, own_keep h.on hb, own_keep h.ow hb, h.ap, h.an, h.aw, h.bl.trans (hb.mono h.sz), Nat.le_trans h.sz hb.size, h.bg⟩

end Go.Proofs.Ytlaeomnacgjcgaa

namespace Go.Proofs.Ytlaeomnacgjcgaa
open Go.RowKit

def lastB (l : List ND) (k : Nat) (x : Int) : Bool := decide (0 < k) && (decide (mkK (ndK l (k - 1)) = 2) && decide ((ndK l (k - 1)).up = x))

theorem TT.node {w0 w : World} {base g : Nat} {l : List ND} {pa : Nat → Option Addr} {ca : Nat → Nat} {k : Nat} {vn vw : Value} (h : TT w0 base g l pa ca k vn vw w) (hk : 0 < k) : ∃ b cap, vn = .slice (some ⟨b, 0, none⟩) k cap ∧ base ≤ b ∧ b < w.heap.size ∧ ∀ j, j < k → w.cell? ⟨b, j * 5, none⟩ = some (.int .i64 (mkK (ndK l j))) ∧ w.cell? ⟨b, j * 5 + 1, none⟩ = some (.string (mkS (ndK l j))) ∧ w.cell? ⟨b, j * 5 + 2, none⟩ = some (mkV (ndK l j) (sv l pa ca j)) ∧ w.cell? ⟨b, j * 5 + 3, none⟩ = some (.int .i64 (ndK l j).up) ∧ w.cell? ⟨b, j * 5 + 4, none⟩ = some (.int .i64 (depU (upF l) j : Int)) := by
  obtain ⟨b, cap, e, h1, h2, h3, h4⟩ := own_spot h.on hk
  refine ⟨b, cap, e, h1, h2, fun j hj => ?_⟩
  have q := fun i (hi : i < 5) => (h4 (j * 5 + i) (by omega)).trans (pcs5_get l (sv l pa ca) k j i hj hi)
  exact ⟨q 0 (by omega), q 1 (by omega), q 2 (by omega), q 3 (by omega), q 4 (by omega)⟩

theorem mkV_slice (t : ND) (l : List ND) (pa : Nat → Option Addr) (ca : Nat → Nat) (j : Nat) : ∃ p n c, mkV t (sv l pa ca j) = .slice p n c := by
  unfold mkV sv; split <;> exact ⟨_, _, _, rfl⟩

set_option maxHeartbeats 3200000 in
theorem endsText_any (w0 : World) (base g : Nat) (l : List ND) (pa : Nat → Option Addr) (ca : Nat → Nat) (k : Nat) (vn vw : Value) (x : Int) (w : World) (h : TT w0 base g l pa ca k vn vw w) (hk : k ≤ 60) :
    Calls Try.prog 50 #[.pointer (some ⟨g, 0, none⟩), .int .i64 x] w fun e w' => e = .returned (.bool (lastB l k x)) ∧ Below w.heap.size w w' := by
  obtain ⟨c0, c1, c2⟩ := cells2 h.box
  rcases Nat.eq_zero_or_pos k with h0 | h0
  · subst h0
    have e : ∃ a c, vn = .slice a 0 c := by
      rcases h.on.2 with ⟨rfl, _⟩ | ⟨g', cap', cur, rfl, _⟩
      · exact ⟨_, _, rfl⟩
      · exact ⟨_, _, rfl⟩
    obtain ⟨a, c, rfl⟩ := e
    clear h
    go_enter Try.func50, Try.ntmps50
    go_wp2
    go_ret
    exact ⟨by simp [lastB], Below.refl _ _⟩
  · obtain ⟨b, cap, rfl, h1, h2, h3⟩ := h.node h0
    obtain ⟨j, hj⟩ : ∃ j, k - 1 = j := ⟨_, rfl⟩
    obtain ⟨d0, d1, d2, d3, d4⟩ := h3 j (by omega)
    have E : Hid (lastB l k x = (decide (mkK (ndK l j) = 2) && decide ((ndK l j).up = x))) := Hid.mk' (by unfold lastB; rw [hj, decide_eq_true h0]; rfl)
    have kj : (k : Int) - 1 = (j : Int) := by omega
    have jk : (j : Int) < (k : Int) := by omega
    have KT := Hid.mk' (fun w' => isText_any (mkK (ndK l j)) (mkS (ndK l j)) (mkV (ndK l j) (sv l pa ca j)) w')
    have k0 : ¬ (k : Int) = 0 := by omega
    have wk : IntKind.i64.wrap ((k : Int) - 1) = (j : Int) := by rw [kj]; rw [IntKind.wrap_i64]; omega
    have wj : IntKind.i64.wrap (j : Int) = (j : Int) := by rw [IntKind.wrap_i64]; omega
    have j0 : (0 : Int) ≤ (j : Int) := by omega
    generalize hK : mkK (ndK l j) = K at *
    generalize hS : mkS (ndK l j) = S at *
    obtain ⟨pp, nn, cc, hV⟩ := mkV_slice (ndK l j) l pa ca j
    rw [hV] at d2 KT
    generalize hU : (ndK l j).up = U at *
    clear h h3 hK hS hV hU hj
    have x0 := World.new_ne w ⟨g, 0, none⟩ c0
    have x1 := World.new_ne w ⟨b, j * 5, none⟩ d0
    dsimp only at x0 x1
    go_enter Try.func50, Try.ntmps50
    go_wp2_with fail
    go_region_held3 (fun w' => w'.cell? ⟨g, 0, none⟩ = some (.slice (some ⟨b, 0, none⟩) k cap) ∧ w'.cell? ⟨b, j * 5, none⟩ = some (.int .i64 K) ∧ w'.cell? ⟨b, j * 5 + 1, none⟩ = some (.string S) ∧ w'.cell? ⟨b, j * 5 + 2, none⟩ = some (.slice pp nn cc) ∧ w'.cell? ⟨b, j * 5 + 3, none⟩ = some (.int .i64 U) ∧ w'.cell? ⟨b, j * 5 + 4, none⟩ = some (.int .i64 (depU (upF l) j : Int))) (go_keep)
      (fail)
    have RR := (row5 w 58 (.int .i64 K) (.string S) (.slice pp nn cc) (.int .i64 U) (.int .i64 (depU (upF l) j : Int))).drew
    have BB := (below_new w (.cells #[.int .i64 K, .string S, .slice pp nn cc, .int .i64 U, .int .i64 (depU (upF l) j : Int)] 58)).drew
    generalize hW : (w.alloc (.cells #[.int .i64 K, .string S, .slice pp nn cc, .int .i64 U, .int .i64 (depU (upF l) j : Int)] 58)).drew = W at *
    obtain ⟨r0, r1, r2, r3_, r4_, r5_⟩ := cells5 RR
    have HR := Hid.mk' RR
    have HB := Hid.mk' BB
    clear hW RR BB c0 c1 d0 d1 d2 d3 d4 x0 x1
    by_cases hk2 : K = 2
    · rw [hk2] at r0 KT E
      rw [decide_eq_true (show (2 : Int) = 2 from rfl)] at KT
      by_cases hu : U = x
      all_goals
        go_wp2_with (first | go_big_skip | (go_at_call 49; refine (KT.out _).mono ?_; rintro e w1 ⟨rfl, hb⟩; obtain ⟨s0, s1, s2, s3_, s4_, s5_⟩ := cells5 (rowB HR.out hb); have HB := Hid.mk' (HB.out.trans (hb.mono HB.out.size)); clear hb))
        go_ret
        exact ⟨by rw [E.out]; simp [hu], HB.out⟩
    · rw [decide_eq_false hk2] at KT
      go_wp2_with (first | go_big_skip | (go_at_call 49; refine (KT.out _).mono ?_; rintro e w1 ⟨rfl, hb⟩; have HB := Hid.mk' (HB.out.trans (hb.mono HB.out.size)); clear hb))
      go_ret
      exact ⟨by rw [E.out]; simp [hk2], HB.out⟩

end Go.Proofs.Ytlaeomnacgjcgaa
