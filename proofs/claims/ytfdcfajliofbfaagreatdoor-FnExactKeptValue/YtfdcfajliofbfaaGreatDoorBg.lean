/- MeasureOf: the program's side. -/
import Derived.Test.YtfdcfajliofbfaaGreatDoorBf
import Derived.Test.YtfdcfajliofbfaaGreatDoorFt
import Derived.Test.YtfdcfajliofbfaaGreatDoorShp
namespace Go.Proofs.YtfdcfajliofbfaaGreatDoor
open Go.RowKit
open Ieee
set_option linter.unusedVariables false
set_option linter.unusedSimpArgs false

set_option maxHeartbeats 800000 in
theorem areDigits_any (t : ByteArray) (most : Nat) (w : World) (hm : most ≤ 4) (hs : (t.size : Int) ≤ 9223372036854775807) :
    Calls Tryz.prog 124 #[.string t, .int .i64 most] w fun e w' => e = .returned (.bool (digOk t most)) ∧ w' = w := by
  by_cases h1 : t.size < 1
  · rw [digOk_none h1]
    have c1 : (t.size : Int) < 1 := by omega
    go_enter Tryz.func124, Tryz.ntmps124
    go_wp2_with go_big_skip
    go_ret
    exact ⟨rfl, rfl⟩
  have c1 : ¬ (t.size : Int) < 1 := by omega
  by_cases h2 : most < t.size
  · rw [digOk_many h2]
    have c2 : (t.size : Int) > (most : Int) := by omega
    go_enter Tryz.func124, Tryz.ntmps124
    go_wp2_with go_big_skip
    go_ret
    exact ⟨rfl, rfl⟩
  have c2 : ¬ (t.size : Int) > (most : Int) := by omega
  go_enter Tryz.func124, Tryz.ntmps124
  go_wp2_with go_big_skip
  go_loop [17] (fun i => ∃ k : Nat, k ≤ t.size ∧ i = .int .i64 k ∧ allD t k = true) (fun i => t.size - (intOf i).toNat)
  case atStart => exact ⟨0, Nat.zero_le _, rfl, rfl⟩
  case round =>
    obtain ⟨k, hk, rfl, hall⟩ := hrel
    have HA := Hid.mk' hall
    clear hall c1 c2
    by_cases hlt : k < t.size
    · have ci : (k : Int) < (t.size : Int) := by omega
      have hc := byS_is hlt
      have HB : Hid (¬ (48 ≤ byS t k ∧ byS t k ≤ 57) → digOk t most = false) := Hid.mk' (fun h => digOk_bad hlt h)
      have HN : Hid (48 ≤ byS t k ∧ byS t k ≤ 57 → allD t (k + 1) = true) := Hid.mk' (fun h => allD_next HA.out h)
      generalize byS t k = c at *
      by_cases b1 : c < 48
      · have d1 : (c : Int) < 48 := by omega
        have E := Hid.mk' (HB.out (by omega))
        go_wp2_with go_big_skip
        go_ret
        exact ⟨by rw [E.out]; rfl, rfl⟩
      · have d1 : ¬ (c : Int) < 48 := by omega
        by_cases b2 : 57 < c
        · have d2 : (c : Int) > 57 := by omega
          have E := Hid.mk' (HB.out (by omega))
          go_wp2_with go_big_skip
          go_ret
          exact ⟨by rw [E.out]; rfl, rfl⟩
        · have d2 : ¬ (c : Int) > 57 := by omega
          have E := Hid.mk' (HN.out (by omega))
          go_wp2_with go_big_skip
          go_round
          case rel => exact ⟨k + 1, by omega, by go_num, E.out⟩
          case measure => simp [intOf]; omega
    · have ci : ¬ (k : Int) < (t.size : Int) := by omega
      have e : k = t.size := by omega
      subst e
      have E : Hid (digOk t most = true) := Hid.mk' (digOk_iff.2 ⟨by omega, by omega, HA.out⟩)
      go_wp2_with go_big_skip
      go_ret
      exact ⟨by rw [E.out]; rfl, rfl⟩

theorem data_len (s : ByteArray) : s.data.toList.length = s.size := by rw [Array.length_toList]; rfl

theorem byS_list (s : ByteArray) (k : Nat) : byS s k = (s.data.toList.getD k 0).toNat := by
  unfold byS
  by_cases h : k < s.size
  · have h' : k < s.data.toList.length := by rw [data_len]; exact h
    rw [dif_pos h, List.getD_eq_getElem?_getD, List.getElem?_eq_getElem h']
    simp
    rfl
  · have h' : ¬ k < s.data.toList.length := by rw [data_len]; exact h
    rw [dif_neg h, List.getD_eq_getElem?_getD, List.getElem?_eq_none (by omega)]
    rfl

theorem index_at : ∀ (L : List UInt8) (k : Nat), k < L.length → (∀ j, j < k → (L.getD j 0).toNat ≠ 46) → (L.getD k 0).toNat = 46 → Lib.indexByte L 46 = (k : Int)
  | [], _, h, _, _ => absurd h (Nat.not_lt_zero _)
  | c :: r, 0, _, _, e => by
    have : c = 46 := UInt8.toNat_inj.1 (by simpa using e)
    unfold Lib.indexByte
    rw [if_pos (by simpa using this)]; rfl
  | c :: r, k + 1, h, hn, e => by
    have h0 : ¬ c = 46 := fun h => hn 0 (by omega) (by rw [h]; rfl)
    have ih := index_at r k (by simpa using h) (fun j hj => by simpa using hn (j + 1) (by omega)) (by simpa using e)
    unfold Lib.indexByte
    rw [if_neg (by simpa using h0), ih, if_neg (by rw [beq_iff_eq]; omega)]
    omega

theorem index_no : ∀ (L : List UInt8), (∀ j, j < L.length → (L.getD j 0).toNat ≠ 46) → Lib.indexByte L 46 = -1
  | [], _ => rfl
  | c :: r, hn => by
    have h0 : ¬ c = 46 := fun h => hn 0 (by simp) (by rw [h]; rfl)
    have ih := index_no r (fun j hj => by simpa using hn (j + 1) (by simpa using hj))
    unfold Lib.indexByte
    rw [if_neg (by simpa using h0), ih]; rfl

theorem index_dot (s : ByteArray) : Lib.indexByte s.data.toList 46 = if dotN s < s.size then (dotN s : Int) else -1 := by
  have hl := data_len s
  by_cases h : dotN s < s.size
  · rw [if_pos h]
    exact index_at _ _ (by omega) (fun j hj => by rw [← byS_list]; exact no_dot_ahead hj) (by rw [← byS_list]; exact dot_at h)
  · rw [if_neg h]
    have := dotN_le s
    exact index_no _ (fun j hj => by rw [← byS_list]; exact no_dot_ahead (by omega))

/-- What strings.Cut answers at a point. -/
def cutV (s : ByteArray) : Array Value := if dotN s < s.size then #[.string (wholeT s), .string (partT s), .bool true] else #[.string s, .string ⟨#[]⟩, .bool false]

set_option maxHeartbeats 400000 in
theorem cutLiteD_any (s : ByteArray) (w : World) (hs : (s.size : Int) ≤ 1048576) :
    Calls Tryz.prog 153 #[.string s, .string ⟨#[46]⟩] w fun e w' => e = .returned (.tuple (cutV s)) ∧ Below w.heap.size w w' := by
  have K := Tryz.stringslite_Index_one s 46 w
  rw [index_dot] at K
  have t1 : (⟨#[46]⟩ : ByteArray).size = 1 := rfl
  unfold cutV
  have EW : wholeT s = s.extract 0 (dotN s) := rfl
  have EP : partT s = s.extract (dotN s + 1) s.size := rfl
  rw [EW, EP]
  clear EW EP
  by_cases h : dotN s < s.size
  · rw [if_pos h] at K ⊢
    have K := Hid.mk' K
    generalize dotN s = k at *
    have i1 : (0 : Int) ≤ (k : Int) := by omega
    have i2 : (k : Int) ≤ (s.size : Int) := by omega
    have i3 : (0 : Int) ≤ (k : Int) + 1 := by omega
    have i4 : (k : Int) + 1 ≤ (s.size : Int) := by omega
    have i5 : ((k : Int) + 1).toNat = k + 1 := by omega
    have iw : IntKind.i64.wrap ((k : Int) + 1) = (k : Int) + 1 := by rw [IntKind.wrap_i64]; omega
    go_enter Tryz.func153, Tryz.ntmps153
    go_wp2_with fail
    refine K.out.mono ?_
    rintro e w1 ⟨rfl, hw⟩
    obtain rfl := hw.symm
    go_wp2
    go_quiet (fail)
    go_wp2
    exact bodyPost_ret (v := .tuple #[.string (s.extract 0 k), .string (s.extract (k + 1) s.size), .bool true]) (by simp [results, Tryz.results153, go_sem]) rfl ⟨rfl, below_drewN (Below.refl _ _) _⟩
  · rw [if_neg h] at K ⊢
    have K := Hid.mk' K
    go_enter Tryz.func153, Tryz.ntmps153
    go_wp2_with fail
    refine K.out.mono ?_
    rintro e w1 ⟨rfl, hw⟩
    obtain rfl := hw.symm
    go_wp2
    exact bodyPost_ret (v := .tuple #[.string s, .string ⟨#[]⟩, .bool false]) (by simp [results, Tryz.results153, go_sem]) rfl ⟨rfl, Below.refl _ _⟩

theorem cutD_any (s : ByteArray) (w : World) (hs : (s.size : Int) ≤ 1048576) :
    Calls Tryz.prog 123 #[.string s, .string ⟨#[46]⟩] w fun e w' => e = .returned (.tuple (cutV s)) ∧ Below w.heap.size w w' := by
  have K := cutLiteD_any s w hs
  unfold cutV at K ⊢
  by_cases h : dotN s < s.size
  · rw [if_pos h] at K ⊢
    have K := Hid.mk' K
    go_enter Tryz.func123, Tryz.ntmps123
    go_wp2_with fail
    refine K.out.mono ?_
    rintro e w1 ⟨rfl, hb⟩
    have HB := Hid.mk' hb
    clear hb
    go_wp2
    exact bodyPost_ret (v := .tuple #[.string (wholeT s), .string (partT s), .bool true]) (by simp [results, Tryz.results123, go_sem]) rfl ⟨rfl, HB.out⟩
  · rw [if_neg h] at K ⊢
    have K := Hid.mk' K
    go_enter Tryz.func123, Tryz.ntmps123
    go_wp2_with fail
    refine K.out.mono ?_
    rintro e w1 ⟨rfl, hb⟩
    have HB := Hid.mk' hb
    clear hb
    go_wp2
    exact bodyPost_ret (v := .tuple #[.string s, .string ⟨#[]⟩, .bool false]) (by simp [results, Tryz.results123, go_sem]) rfl ⟨rfl, HB.out⟩

theorem inf_any (w : World) : Calls Tryz.prog 122 #[.int .i64 1] w fun e w' => e = .returned (.float .f64 9218868437227405312) ∧ w' = w := by
  go_enter Tryz.func122, Tryz.ntmps122
  go_wp2
  go_ret
  exact ⟨rfl, rfl⟩

/-- The tables that ParseFloat reads. -/
def PW (w : World) : Prop := ∃ g o c, w.cell? ⟨13, 0, none⟩ = some (.slice (some ⟨g, o, none⟩) 23 c) ∧ ∀ j, 1 ≤ j → j ≤ 3 → w.cell? ⟨g, o + j, none⟩ = some (.float .f64 (double.nearest false (10 ^ j) 0))
def TBL (w : World) : Prop := w.cell? ⟨7, 0, none⟩ = some (.int .u64 52) ∧ w.cell? ⟨1, 0, none⟩ = some (.bool true) ∧ PW w

theorem cell_in {w : World} {a : Addr} {v : Value} (h : w.cell? a = some v) : a.block < w.heap.size := by
  refine Nat.lt_of_not_le fun hn => ?_
  have : w.heap[a.block]? = none := Array.getElem?_eq_none hn
  simp [World.cell?, this] at h

theorem TBL.below {w w' : World} (h : TBL w) (hb : Below w.heap.size w w') : TBL w' := by
  obtain ⟨h1, h2, g, o, c, h3, h4⟩ := h
  exact ⟨(hb.cell (cell_in h1)).trans h1, (hb.cell (cell_in h2)).trans h2, g, o, c, (hb.cell (cell_in h3)).trans h3, fun j j1 j2 => (hb.cell (cell_in (h4 j j1 j2))).trans (h4 j j1 j2)⟩

theorem okR_looks {r : ByteArray} (h : looks r) : okR r = (decide (dotN r = r.size) || decide (padP r % 250 = 0)) := by
  unfold okR
  rw [h.1, Bool.true_and]
  rcases h.2 with c | c
  · rw [decide_eq_true c]; simp
  · rw [c, Bool.true_and]

set_option maxHeartbeats 1600000 in
theorem parse_looks (r : ByteArray) (h : looks r) (w : World) (t : TBL w) :
    ∃ word : Nat, word < 9218868437227405312 ∧ quarters word = (if okR r = true then (qR r : Int) else -1) ∧ (okR r = true → word = wordQ (qR r)) ∧
      Calls Tryz.prog 125 #[.string r, .int .i64 64] w fun e w' => e = .returned (.tuple #[.float .f64 word, .nilIface]) ∧ w' = w := by
  have hd := looks_dec h
  have h8 := hd.2.1
  obtain ⟨t1, t2, g, o, c, t3, t4⟩ := t
  have wn := wholeN_lt h.1
  have hok := okR_looks h
  have hnum : numD (wholeT r) (dotN r) = wholeN r := by unfold wholeN; rw [whole_size]
  have z0 : quarters 0 = 0 := rfl
  have w0 : wordQ 0 = 0 := rfl
  by_cases hdot : dotN r = r.size
  · obtain ⟨a1, a2, a3⟩ := rf_ahead (r := r) (dotN r) (Nat.le_refl _)
    rw [hnum] at a1
    rw [hdot] at a1 a2
    rw [decide_eq_true hdot, Bool.true_or] at hok
    have hq : qR r = 4 * wholeN r := by unfold qR; rw [if_pos hdot]; omega
    rw [hok, if_pos rfl, hq]
    by_cases hz : wholeN r = 0
    · rw [hz]
      exact ⟨0, by omega, z0, fun _ => w0.symm, parse_any r 0 w h8 (atof64_zero r w hd (by rw [a1, hz]) t2)⟩
    · have hX : rfX r = 0 := by unfold rfX; rw [if_neg (by rw [a1]; exact hz), a2]; rfl
      have KE := exact_zero (rfM r r.size) w (by rw [a1]; omega) t1
      have ew := nearest_whole (wholeN r) (by omega) wn
      rw [a1] at KE
      refine ⟨wordQ (4 * wholeN r), ?_, quarters_word _ (by omega), fun _ => rfl, parse_any r _ w h8 (atof64_pos r _ w hd (by rw [a1]; exact hz) t2 ?_)⟩
      · have := wordQ_lt (4 * wholeN r) (by omega)
        omega
      · rw [a1, hX, ← ew]
        exact KE
  · have hp : digOk (partT r) 3 = true := by rcases h.2 with c | c; exact absurd c hdot; exact c
    have hle := dotN_le r
    have ps := part_size r
    have hb := rf_behind (r := r) (by omega) hp ((partT r).size) (by omega)
    rw [show dotN r + 1 + (partT r).size = r.size by omega, hnum] at hb
    obtain ⟨a1, a2, a3⟩ := hb
    have a1 : rfM r r.size = wholeN r * 10 ^ (partT r).size + partN r := a1
    rw [decide_eq_false hdot, Bool.false_or] at hok
    have hq : qR r = 4 * wholeN r + padP r / 250 := by unfold qR; rw [if_neg hdot]
    have cs := part_sizes hp
    obtain ⟨f, D, LD, hf, f1, f3, hD, d1, d2, d3, d4, m1, m2, m3⟩ : ∃ f D LD : Nat, (partT r).size = f ∧ 1 ≤ f ∧ f ≤ 3 ∧ D = 10 ^ f ∧ 2 ^ LD ≤ D ∧ D < 2 ^ (LD + 1) ∧ LD ≤ 9 ∧ D ≤ 1000 ∧ wholeN r * D + partN r < 10000 * D ∧ (4 * (wholeN r * D + partN r) % D = 0 ↔ padP r % 250 = 0) ∧ (padP r % 250 = 0 → 4 * (wholeN r * D + partN r) / D = 4 * wholeN r + padP r / 250) := by
      rcases cs with ⟨e, b, c⟩ | ⟨e, b, c⟩ | ⟨e, b, c⟩
      · exact ⟨1, 10, 3, e, by omega, by omega, rfl, by decide, by decide, by omega, by omega, by omega, by omega, by omega⟩
      · exact ⟨2, 100, 6, e, by omega, by omega, rfl, by decide, by decide, by omega, by omega, by omega, by omega, by omega⟩
      · exact ⟨3, 1000, 9, e, by omega, by omega, rfl, by decide, by decide, by omega, by omega, by omega, by omega, by omega⟩
    rw [hf] at a1 a3
    rw [← hD] at a1
    have hpc := t4 f f1 f3
    rw [← hD] at hpc
    rw [hok, hq]
    by_cases hz : wholeN r * D + partN r = 0
    · have y1 : wholeN r = 0 := by
        rcases Nat.eq_zero_or_pos (wholeN r) with h | h
        · exact h
        · have := Nat.mul_pos h (show 0 < D by omega); omega
      have y2 : partN r = 0 := by omega
      have y3 : padP r = 0 := by rcases cs with ⟨e, b, c⟩ | ⟨e, b, c⟩ | ⟨e, b, c⟩ <;> omega
      rw [y1, y3]
      exact ⟨0, by omega, by simp [z0], fun _ => w0.symm, parse_any r 0 w h8 (atof64_zero r w hd (by rw [a1, hz]) t2)⟩
    · have hX : rfX r = -(f : Int) := by unfold rfX; rw [if_neg (by rw [a1]; exact hz), if_pos a2, a3]
      obtain ⟨m, hm⟩ : ∃ m, wholeN r * D + partN r = m := ⟨_, rfl⟩
      rw [hm] at a1 hz m1 m2 m3
      have g1 : 2 ^ m.log2 ≤ m := Nat.log2_self_le hz
      have g2 : m < 2 ^ (m.log2 + 1) := Nat.lt_log2_self
      have hL : m.log2 ≤ 23 := by
        rcases Nat.lt_or_ge 23 m.log2 with c | c
        · have : 2 ^ 24 ≤ 2 ^ m.log2 := Nat.pow_le_pow_right (by decide) c
          have e : (2 : Nat) ^ 24 = 16777216 := by decide
          have : m < 10000 * 1000 := Nat.lt_of_lt_of_le m1 (Nat.mul_le_mul_left _ d4)
          omega
        · exact c
      obtain ⟨word, k1, k2, k3, k4⟩ := div_quarters m D m.log2 LD g1 g2 hL d1 d2 d3 d4 m1
      have mlt : m < 4503599627370496 := by
        have : m < 10000 * 1000 := Nat.lt_of_lt_of_le m1 (Nat.mul_le_mul_left _ d4)
        omega
      have KE := exact_over m f D word g o c w mlt t1 f1 f3 t3 hpc k1
      have eq : quarters word = if decide (padP r % 250 = 0) = true then ((4 * wholeN r + padP r / 250 : Nat) : Int) else -1 := by
        rw [k4]
        by_cases c : padP r % 250 = 0
        · rw [if_pos (m2.2 c), if_pos (by simp [c]), m3 c]
        · rw [if_neg (fun h => c (m2.1 h)), if_neg (by simp [c])]
      refine ⟨word, k2, eq, fun hc => ?_, parse_any r _ w h8 (atof64_pos r _ w hd (by rw [a1]; exact hz) t2 ?_)⟩
      · rw [if_pos hc] at eq
        exact word_of_quarters eq k3
      · rw [a1, hX]
        exact KE

end Go.Proofs.YtfdcfajliofbfaaGreatDoor
