/- Walks of the program's side: the fault of a table. -/
import Derived.Test.YtahkneghmgmnbaaWd
namespace Go.Proofs.Ytahkneghmgmnbaa
open Go.RowKit
set_option linter.unusedVariables false

set_option maxHeartbeats 400000 in
theorem liesIn_core (ad : Bool) (fr sz : Int) (a : Option Addr) (n c : Nat) (w : World) (hfr : fr ≤ 9223372036854775807) (g1 : n ≤ 2000) :
    Calls Try.prog 45 #[.agg #[.bool ad, .int .i64 fr, .int .i64 sz], .slice a n c] w fun e w' => e = .returned (.bool (decide (0 ≤ fr) && decide (1 ≤ sz) && decide (sz ≤ n - fr))) ∧ Below w.heap.size w w' := by
  by_cases d1 : 0 ≤ fr
  · by_cases d2 : 1 ≤ sz
    · rw [show (decide (0 ≤ fr) && decide (1 ≤ sz) && decide (sz ≤ n - fr)) = decide (sz ≤ n - fr) from by simp [d1, d2]]
      go_enter Try.func45, Try.ntmps45
      go_wp2
      go_ret
      exact ⟨rfl, (Below.refl _ _).alloc (Nat.le_refl _) _⟩
    · have d4 : decide (1 ≤ sz) = false := by simpa using d2
      rw [show (decide (0 ≤ fr) && decide (1 ≤ sz) && decide (sz ≤ n - fr)) = false from by simp [d4]]
      clear d2
      go_enter Try.func45, Try.ntmps45
      go_wp2
      go_ret
      exact ⟨rfl, (Below.refl _ _).alloc (Nat.le_refl _) _⟩
  · have d4 : decide (0 ≤ fr) = false := by simpa using d1
    rw [show (decide (0 ≤ fr) && decide (1 ≤ sz) && decide (sz ≤ n - fr)) = false from by simp [d4]]
    clear d1
    go_enter Try.func45, Try.ntmps45
    go_wp2
    go_ret
    exact ⟨rfl, (Below.refl _ _).alloc (Nat.le_refl _) _⟩

theorem below_three {B : Nat} {w w' : World} (h : Below B w w') {o1 o2 o3 : Nat} {v1 v2 v3 : Value} : Below B w (((w'.setCell ⟨B, o1, none⟩ v1).setCell ⟨B, o2, none⟩ v2).setCell ⟨B, o3, none⟩ v3) :=
  ((h.setCell (p := ⟨B, o1, none⟩) (Nat.le_refl _) _).setCell (p := ⟨B, o2, none⟩) (Nat.le_refl _) _).setCell (p := ⟨B, o3, none⟩) (Nat.le_refl _) _

theorem Try.info66 : (Try.prog.info? 66).map (fun i => (i.zero, i.size, i.bytes)) = some (some (.agg #[.bool false, .int .i64 0, .int .i64 0]), 3, 24) := by kernel_rfl

set_option maxHeartbeats 400000 in
theorem chainOf_any (a : Option Addr) (c : Nat) (l : List PC) (w : World) (ha : PAt w a l) (hl : (l.length : Int) ≤ 1048576) :
    Calls Try.prog 37 #[.slice a l.length c] w fun e w' => ∃ b, e = .returned (.slice (some ⟨b, 0, none⟩) l.length l.length) ∧ w.heap.size ≤ b ∧ w'.rowIs b 66 (l.length * 3) (pv l) ∧ Below w.heap.size w w' := by
  have hmk := make_pieces (P := Try.prog) 61 66 Try.underlying61 Try.info66 l.length hl
  go_enter Try.func37, Try.ntmps37
  go_wp2
  go_loopw [11] (fun i wr => ∃ k : Nat, k ≤ l.length ∧ i = .int .i64 k ∧ wr.rowIs w.heap.size 66 (l.length * 3) (ppart l k) ∧ Below w.heap.size w wr) (fun i _ => l.length - (intOf i).toNat)
  case atStart => exact ⟨0, Nat.zero_le _, rfl, row_ppart_start w 66 l _, (Below.refl _ _).alloc (Nat.le_refl _) _⟩
  case round =>
    obtain ⟨k, hk, rfl, hrow, hbl⟩ := hrel
    by_cases hlt : k < l.length
    · rcases ha with ha | ⟨b, o, rfl, hbs, hc⟩
      · exact absurd hlt (by rw [ha]; exact Nat.not_lt_zero _)
      obtain ⟨hc1, hc2, hc3⟩ := hc k hlt
      have h1 : wr.cell? ⟨b, o + k * 3, none⟩ = some (.bool (pc l k).ad) := (hbl.cell hbs).trans hc1
      have h2 : wr.cell? ⟨b, o + k * 3 + 1, none⟩ = some (.int .i64 (pc l k).fr) := (hbl.cell hbs).trans hc2
      have h3 : wr.cell? ⟨b, o + k * 3 + 2, none⟩ = some (.int .i64 (pc l k).sz) := (hbl.cell hbs).trans hc3
      have f0 := hrow.frozen (k * 3)
      have f1 := hrow.frozen (k * 3 + 1)
      have f2 := hrow.frozen (k * 3 + 2)
      obtain ⟨v0, g0⟩ : ∃ v, wr.cell? ⟨w.heap.size, k * 3, none⟩ = some v := ⟨_, hrow.cell (by omega)⟩
      obtain ⟨v1, g1⟩ : ∃ v, wr.cell? ⟨w.heap.size, k * 3 + 1, none⟩ = some v := ⟨_, hrow.cell (by omega)⟩
      obtain ⟨v2, g2⟩ : ∃ v, wr.cell? ⟨w.heap.size, k * 3 + 2, none⟩ = some v := ⟨_, hrow.cell (by omega)⟩
      have y := hrow.lt
      have R1 := Hid.mk' hrow
      have R2 := Hid.mk' hbl
      clear hc hc1 hc2 hc3 hrow hbl hmk
      go_wp2
      go_roundw
      case rel => exact ⟨k + 1, by omega, by go_num, (row_ppart_step R1.out).alloc _, (below_three R2.out).alloc (by simp; omega) _⟩
      case measure => simp [intOf]; omega
    · go_wp2
      go_ret
      have e : k = l.length := by omega
      subst e
      exact ⟨_, rfl, Nat.le_refl _, row_ppart_end hrow, hbl⟩

set_option maxHeartbeats 400000 in
theorem size_any (a : Option Addr) (c : Nat) (l : List PC) (w : World) (hp : PAt w a l) (hs : Small l) :
    Calls Try.prog 47 #[.slice a l.length c] w fun e w' => e = .returned (.int .i64 (total l)) ∧ Below w.heap.size w w' := by
  have hl := hs.1
  go_enter Try.func47, Try.ntmps47
  go_wp2
  go_loopw [3, 8] (fun n i wr => ∃ k : Nat, k ≤ l.length ∧ i = .int .i64 k ∧ n = .int .i64 (total (l.take k)) ∧ Below w.heap.size w wr) (fun _ i _ => l.length - (intOf i).toNat)
  case atStart => exact ⟨0, Nat.zero_le _, rfl, rfl, Below.refl _ _⟩
  case round =>
    obtain ⟨k, hk, rfl, rfl, hbl⟩ := hrel
    have ht := hs.total_le k hk
    by_cases hlt : k < l.length
    · rcases hp with hp | ⟨b, o, rfl, hbs, hc⟩
      · exact absurd hlt (by rw [hp]; exact Nat.not_lt_zero _)
      obtain ⟨q1, q2, q3⟩ := hc k hlt
      have h1 : wr.cell? ⟨b, o + k * 3, none⟩ = some (.bool (pc l k).ad) := (hbl.cell hbs).trans q1
      have h2 : wr.cell? ⟨b, o + k * 3 + 1, none⟩ = some (.int .i64 (pc l k).fr) := (hbl.cell hbs).trans q2
      have h3 : wr.cell? ⟨b, o + k * 3 + 2, none⟩ = some (.int .i64 (pc l k).sz) := (hbl.cell hbs).trans q3
      have hz := hs.2 k hlt
      have E := Hid.mk' (total_take l k hlt)
      obtain ⟨x, hx⟩ : ∃ x, x = total (l.take k) := ⟨_, rfl⟩
      rw [← hx] at ht ⊢
      have X := Hid.mk' hx
      have B := Hid.mk' (hbl.alloc hbl.size (.cells #[.bool (pc l k).ad, .int .i64 (pc l k).fr, .int .i64 (pc l k).sz] 66))
      clear hc hx q1 q2 q3 hbl
      go_wp2
      go_roundw
      case rel => exact ⟨k + 1, by omega, by go_num, by rw [E.out, ← X.out], B.out⟩
      case measure => simp [intOf]; omega
    · go_wp2
      go_ret
      have e : k = l.length := by omega
      subst e
      exact ⟨by rw [List.take_length]; rfl, hbl⟩

theorem liesIn_any (t : TB) (p : PC) (a : Option Addr) (c : Nat) (w : World) (hfr : p.fr ≤ 9223372036854775807) (g1 : t.base.length ≤ 2000) (g2 : t.more.length ≤ 2000) (v : Value) (hv : v = .slice a (if p.ad then t.more.length else t.base.length) c) :
    Calls Try.prog 45 #[.agg #[.bool p.ad, .int .i64 p.fr, .int .i64 p.sz], v] w fun e w' => e = .returned (.bool (lies t p)) ∧ Below w.heap.size w w' := by
  subst hv
  unfold lies room
  cases p.ad
  · exact liesIn_core false p.fr p.sz a t.base.length c w hfr g1
  · exact liesIn_core true p.fr p.sz a t.more.length c w hfr g2

theorem storeOf_val (a b c v : Value) (d : Bool) (w : World) (hv : v = if d then b else a) :
    Calls Try.prog 46 #[.agg #[a, b, c], .bool d] w fun e w' => e = .returned v ∧ Below w.heap.size w w' := by
  rw [hv]; exact storeOf_any a b c d w

theorem join2 {B : Nat} {w a b c : World} (h : Below B w a) (h1 : Below a.heap.size a b) (h2 : Below b.heap.size b c) (hB : B ≤ a.heap.size := by first | omega | (simp; omega)) : Below B w c :=
  (h.trans (h1.mono hB)).trans (h2.mono (Nat.le_trans hB h1.size))

theorem row2 {a b c : World} {g n : Nat} {t : TypeId} {f : Nat → Value} (h : a.rowIs g t n f) (h1 : Below a.heap.size a b) (h2 : Below b.heap.size b c) : c.rowIs g t n f := by
  have h' := h.of_block (h1.block _ h.lt)
  exact h'.of_block (h2.block _ h'.lt)

/-- Each piece begins at a place that is an int64. -/
def WFT (t : TB) : Prop := ∀ k, k < t.pcs.length → (pc t.pcs k).fr ≤ 9223372036854775807

set_option maxHeartbeats 800000 in
theorem tableFault_any (v : Value) (t : TB) (w : World) (ht : TAt w v t) (hwf : WFT t) (hl : (t.base.length : Int) + t.more.length + t.pcs.length ≤ 1048576) :
    Calls Try.prog 13 #[v] w fun e w' => e = .returned (.int .i64 (fault t)) ∧ Below w.heap.size w w' := by
  obtain ⟨a1, a2, a3, c1, c2, c3, rfl, h1, h2, h3⟩ := ht
  by_cases d1 : 2000 < t.base.length
  · rw [fault_many (.inl d1)]
    go_enter Try.func13, Try.ntmps13
    go_wp2
    go_ret
    exact ⟨rfl, (Below.refl _ _).alloc (Nat.le_refl _) _⟩
  by_cases d2 : 2000 < t.more.length
  · rw [fault_many (.inr (.inl d2))]
    go_enter Try.func13, Try.ntmps13
    go_wp2
    go_ret
    exact ⟨rfl, (Below.refl _ _).alloc (Nat.le_refl _) _⟩
  by_cases d3 : 40 < t.pcs.length
  · rw [fault_many (.inr (.inr d3))]
    go_enter Try.func13, Try.ntmps13
    go_wp2
    go_ret
    exact ⟨rfl, (Below.refl _ _).alloc (Nat.le_refl _) _⟩
  have e1 : decide (2000 < (t.base.length : Int)) = false := by simp; omega
  have e2 : decide (2000 < (t.more.length : Int)) = false := by simp; omega
  have e3 : decide (40 < (t.pcs.length : Int)) = false := by simp; omega
  go_enter Try.func13, Try.ntmps13
  go_wp2
  go_loopw [24] (fun i wr => ∃ k : Nat, k ≤ t.pcs.length ∧ i = .int .i64 k ∧ upto t k ∧ Below w.heap.size w wr ∧ wr.rowIs w.heap.size 26 3 (r3 (.slice a1 t.base.length c1) (.slice a2 t.more.length c2) (.slice a3 t.pcs.length c3))) (fun i _ => t.pcs.length - (intOf i).toNat)
  case atStart => exact ⟨0, Nat.zero_le _, rfl, fun j hj => absurd hj (Nat.not_lt_zero _), (Below.refl _ _).alloc (Nat.le_refl _) _, row3 w 26 _ _ _⟩
  case round =>
    obtain ⟨k, hk, rfl, hup, hbl, hrow⟩ := hrel
    have q0 : wr.cell? ⟨w.heap.size, 0, none⟩ = some (.slice a1 t.base.length c1) := hrow.cell (by omega)
    have q1 : wr.cell? ⟨w.heap.size, 1, none⟩ = some (.slice a2 t.more.length c2) := hrow.cell (by omega)
    have q2 : wr.cell? ⟨w.heap.size, 2, none⟩ = some (.slice a3 t.pcs.length c3) := hrow.cell (by omega)
    have y := hrow.lt
    by_cases hlk : k < t.pcs.length
    · rcases h3 with h3 | ⟨b, o, rfl, hbs, hc⟩
      · exact absurd hlk (by rw [h3]; exact Nat.not_lt_zero _)
      obtain ⟨g1, g2, g3⟩ := hc k hlk
      have p1 : wr.cell? ⟨b, o + k * 3, none⟩ = some (.bool (pc t.pcs k).ad) := (hbl.cell hbs).trans g1
      have p2 : wr.cell? ⟨b, o + k * 3 + 1, none⟩ = some (.int .i64 (pc t.pcs k).fr) := (hbl.cell hbs).trans g2
      have p3 : wr.cell? ⟨b, o + k * 3 + 2, none⟩ = some (.int .i64 (pc t.pcs k).sz) := (hbl.cell hbs).trans g3
      have hfr := hwf k hlk
      have B := Hid.mk' hbl
      have U := Hid.mk' hup
      have RW := Hid.mk' hrow
      clear hc g1 g2 g3 hbl hup hrow h1 h2 hwf
      obtain ⟨sv, hsv⟩ : ∃ sv, sv = (if (pc t.pcs k).ad then Value.slice a2 t.more.length c2 else Value.slice a1 t.base.length c1) := ⟨_, rfl⟩
      obtain ⟨sa, sc, hsa⟩ : ∃ a c, sv = .slice a (if (pc t.pcs k).ad then t.more.length else t.base.length) c := by
        rw [hsv]; cases (pc t.pcs k).ad
        · exact ⟨a1, c1, rfl⟩
        · exact ⟨a2, c2, rfl⟩
      have H1 := Hid.mk' hsv
      have H2 := Hid.mk' hsa
      clear hsv hsa
      cases hli : lies t (pc t.pcs k)
      · have F := Hid.mk' (fault_range d1 d2 d3 (not_all hlk hli))
        have L := Hid.mk' hli
        clear hli
        go_wp2
        go_region_held3 (fun w' => w'.cell? ⟨w.heap.size, 0, none⟩ = some (.slice a1 t.base.length c1) ∧ w'.cell? ⟨w.heap.size, 1, none⟩ = some (.slice a2 t.more.length c2) ∧ w'.cell? ⟨w.heap.size, 2, none⟩ = some (.slice (some ⟨b, o, none⟩) t.pcs.length c3) ∧ w'.cell? ⟨wr.heap.size, 0, none⟩ = some (.bool (pc t.pcs k).ad) ∧ w'.cell? ⟨wr.heap.size, 1, none⟩ = some (.int .i64 (pc t.pcs k).fr) ∧ w'.cell? ⟨wr.heap.size, 2, none⟩ = some (.int .i64 (pc t.pcs k).sz)) (simp [*, go_sem, World.cell?_alloc_past])
          (first | (go_at_call 46; refine (storeOf_val _ _ _ _ _ _ H1.out).mono ?_; rintro e w1 ⟨rfl, hb1⟩; replace hb1 := undrew hb1; obtain ⟨hx1, hx2⟩ := bcell hb1; have z1 := hb1.size; simp at hx1 hx2 z1; have z2 : w.heap.size < w1.heap.size := (by omega); have z3 : wr.heap.size < w1.heap.size := (by omega)) | (go_at_call 45; refine (liesIn_any t _ sa sc _ hfr (by omega) (by omega) _ H2.out).mono ?_; rw [L.out]; rintro e w2 ⟨rfl, hb2⟩; obtain ⟨hx3, hx4⟩ := bcell hb2))
        have B2 := Hid.mk' (join2 (B.out.alloc B.out.size _) hb1 hb2)
        clear hb1 hb2 hx1 hx2 hx3 hx4 q0 q1 q2 p1 p2 p3
        go_wp2
        go_ret
        exact ⟨by rw [F.out]; rfl, B2.out⟩
      · have U1 := Hid.mk' (upto_step U.out hli)
        have L := Hid.mk' hli
        clear hli
        go_wp2
        go_region_held3 (fun w' => w'.cell? ⟨w.heap.size, 0, none⟩ = some (.slice a1 t.base.length c1) ∧ w'.cell? ⟨w.heap.size, 1, none⟩ = some (.slice a2 t.more.length c2) ∧ w'.cell? ⟨w.heap.size, 2, none⟩ = some (.slice (some ⟨b, o, none⟩) t.pcs.length c3) ∧ w'.cell? ⟨wr.heap.size, 0, none⟩ = some (.bool (pc t.pcs k).ad) ∧ w'.cell? ⟨wr.heap.size, 1, none⟩ = some (.int .i64 (pc t.pcs k).fr) ∧ w'.cell? ⟨wr.heap.size, 2, none⟩ = some (.int .i64 (pc t.pcs k).sz)) (simp [*, go_sem, World.cell?_alloc_past])
          (first | (go_at_call 46; refine (storeOf_val _ _ _ _ _ _ H1.out).mono ?_; rintro e w1 ⟨rfl, hb1⟩; replace hb1 := undrew hb1; obtain ⟨hx1, hx2⟩ := bcell hb1; have z1 := hb1.size; simp at hx1 hx2 z1; have z2 : w.heap.size < w1.heap.size := (by omega); have z3 : wr.heap.size < w1.heap.size := (by omega)) | (go_at_call 45; refine (liesIn_any t _ sa sc _ hfr (by omega) (by omega) _ H2.out).mono ?_; rw [L.out]; rintro e w2 ⟨rfl, hb2⟩; obtain ⟨hx3, hx4⟩ := bcell hb2))
        have B2 := Hid.mk' (join2 (B.out.alloc B.out.size _) hb1 hb2)
        have R2 := Hid.mk' (row2 (RW.out.alloc _) hb1 hb2)
        clear hb1 hb2 hx1 hx2 hx3 hx4 q0 q1 q2 p1 p2 p3
        go_wp2
        go_roundw
        case rel => exact ⟨k + 1, by omega, by go_num, U1.out, B2.out, R2.out⟩
        case measure => simp [intOf]; omega
    · have ha := all_of_upto hup (by omega)
      have hsm := small_of d1 d2 d3 ha
      have hts := hsm.total_le t.pcs.length (Nat.le_refl _)
      rw [List.take_length] at hts
      have hpr := PAt.below_of h3 hbl
      by_cases d4 : 240 < total t.pcs
      · have F := Hid.mk' (fault_large d1 d2 d3 ha d4)
        go_wp2_with fail
        refine (chainOf_any a3 c3 t.pcs wr hpr (by omega)).mono ?_
        rintro e w1 ⟨b1, rfl, hs1, hr1, hb1⟩
        go_wp2_with fail
        refine (size_any _ _ t.pcs w1 (.of_row hr1) hsm).mono ?_
        rintro e w2 ⟨rfl, hb2⟩
        have B2 := Hid.mk' (join2 hbl hb1 hb2)
        clear hb1 hb2 hr1
        go_wp2
        go_ret
        exact ⟨by rw [F.out]; rfl, B2.out⟩
      · have F := Hid.mk' (fault_ok d1 d2 d3 ha d4)
        go_wp2_with fail
        refine (chainOf_any a3 c3 t.pcs wr hpr (by omega)).mono ?_
        rintro e w1 ⟨b1, rfl, hs1, hr1, hb1⟩
        go_wp2_with fail
        refine (size_any _ _ t.pcs w1 (.of_row hr1) hsm).mono ?_
        rintro e w2 ⟨rfl, hb2⟩
        have B2 := Hid.mk' (join2 hbl hb1 hb2)
        clear hb1 hb2 hr1
        go_wp2
        go_ret
        exact ⟨by rw [F.out]; rfl, B2.out⟩

set_option maxHeartbeats 400000 in
theorem specFault_any (v : Value) (t : TB) (w : World) (ht : TAt w v t) (hl : (t.base.length : Int) + t.more.length + t.pcs.length ≤ 1048576) :
    Calls Try.prog 24 #[v] w fun e w' => e = .returned (.int .i64 (fault t)) ∧ Below w.heap.size w w' := by
  obtain ⟨a1, a2, a3, c1, c2, c3, rfl, h1, h2, h3⟩ := ht
  have B0 := (Below.refl w.heap.size w).alloc (Nat.le_refl _) (.cells #[.slice a1 t.base.length c1, .slice a2 t.more.length c2, .slice a3 t.pcs.length c3] 26)
  have R0 := row3 w 26 (.slice a1 t.base.length c1) (.slice a2 t.more.length c2) (.slice a3 t.pcs.length c3)
  go_enter Try.func24, Try.ntmps24
  go_wp2_with fail
  refine (l1Fault_any w.heap.size a1 a2 a3 c1 c2 c3 t _ (R0.cell (by omega)) (R0.cell (by omega)) (R0.cell (by omega)) R0.lt (h3.below B0) hl).mono ?_
  rintro e w1 ⟨rfl, hb1⟩
  have B1 := Hid.mk' (B0.trans (hb1.mono B0.size))
  clear B0 R0 hb1
  go_wp2
  go_ret
  exact ⟨rfl, B1.out⟩

end Go.Proofs.Ytahkneghmgmnbaa
