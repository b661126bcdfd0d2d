/- Lists of patches: measured, copied, told to be the same, marked. -/
import Derived.Test.YtbdjppiagjhfmaaXpv
import Derived.Test.YtbdjppiagjhfmaaXpl
import Derived.Deep.RegionHeld3
namespace Go.Proofs.Ytbdjppiagjhfmaa
open Go.RowKit
set_option linter.unusedVariables false
set_option linter.unusedSimpArgs false

set_option maxHeartbeats 800000 in
theorem szPatchSS_any (a : Option Addr) (c : Nat) (L : List (List XK)) (z : Int) (w : World) (ha : XssAt w a L) (hw : WideXX L) (h0 : 0 ≤ z) (h1 : z ≤ 1048576) (hl : (L.length : Int) ≤ 9223372036854775807) :
    Calls Try.prog 11 #[.slice a L.length c, .int .i64 z] w fun e w' => e = .returned (.int .i64 (if z < (L.length : Int) + xxsz L then -1 else z - L.length - xxsz L)) ∧ Below w.heap.size w w' := by
  by_cases g1 : z < (L.length : Int)
  · rw [if_pos (by omega)]
    go_enter Try.func11, Try.ntmps11
    go_wp2
    go_ret
    exact ⟨rfl, Below.refl _ _⟩
  have HA := Hid.mk' ha
  have HW := Hid.mk' hw
  clear ha hw
  go_enter Try.func11, Try.ntmps11
  go_wp2
  go_loopw [1, 5] (fun x i wr => ∃ k : Nat, k ≤ L.length ∧ i = .int .i64 k ∧ x = .int .i64 (z - (L.length : Int) - (xxsz (L.take k) : Int)) ∧ (xxsz (L.take k) : Int) ≤ z - L.length ∧ Below w.heap.size w wr) (fun _ i _ => L.length - (intOf i).toNat)
  case atStart => exact ⟨0, Nat.zero_le _, rfl, by simp [xxsz], by simp [xxsz]; omega, Below.refl _ _⟩
  case round =>
    obtain ⟨k, hk, rfl, rfl, hz, hbl⟩ := hrel
    have HB := Hid.mk' hbl
    clear hbl
    by_cases hlt : k < L.length
    · have ci : (k : Int) < (L.length : Int) := by omega
      rcases HA.out.below HB.out with ha | ⟨b, o, rfl, hbs, hc⟩
      · exact absurd hlt (by rw [ha]; exact Nat.not_lt_zero _)
      obtain ⟨p, d, q2, q3⟩ := hc k hlt
      obtain ⟨w2, w3⟩ := HW.out k hlt
      have st := xxsz_take L k hlt
      have sl := xxsz_le L (k + 1)
      have KA := szPatchS_any p d (xxK L k) (z - (L.length : Int) - (xxsz (L.take k) : Int)) wr q3 w2 (by omega) (by omega) w3
      generalize hn2 : (xxK L k).length = n at *
      generalize hn3 : xsz (xxK L k) = m at *
      generalize hy : z - (L.length : Int) - (xxsz (L.take k) : Int) = y at *
      clear hc q3 w2
      by_cases g2 : y < (n : Int) + m
      · rw [if_pos g2] at KA
        have KA := Hid.mk' KA
        have gz : z < (L.length : Int) + xxsz L := by omega
        go_wp2_with fail
        refine KA.out.mono ?_
        rintro e w1 ⟨rfl, hb⟩
        have HB := Hid.mk' (HB.out.trans (hb.mono HB.out.size))
        clear hb KA
        go_wp2
        go_ret
        exact ⟨by first | rfl | (rw [if_pos gz]; rfl), HB.out⟩
      · rw [if_neg g2] at KA
        have KA := Hid.mk' KA
        have gy : ¬ (y - (n : Int) - m < 0) := by omega
        go_wp2_with fail
        refine KA.out.mono ?_
        rintro e w1 ⟨rfl, hb⟩
        have HB := Hid.mk' (HB.out.trans (hb.mono HB.out.size))
        clear hb KA
        go_wp2
        go_roundw
        case rel => exact ⟨k + 1, by omega, by go_num, by congr 1; omega, by omega, HB.out⟩
        case measure => simp [intOf]; omega
    · have ci : ¬ (k : Int) < (L.length : Int) := by omega
      have e : k = L.length := by omega
      subst e
      rw [List.take_length] at hz
      go_wp2
      go_ret
      exact ⟨by first | rfl | (simp; done) | (rw [if_neg (by omega)]; simp), HB.out⟩

/-- Patches of one's own, all between g and hi. -/
def XO (g hi : Nat) (l : List XK) (w : World) : Prop := ∃ (f : Nat → Value) (β : Nat → Nat), w.rowIs g 108 (l.length * 3) f ∧ g < hi ∧ ∀ j, j < l.length → f (j * 3) = .int .i64 (xkK l j).pl ∧ f (j * 3 + 1) = .int .i64 (xkK l j).ct ∧ f (j * 3 + 2) = .slice (some ⟨β j, 0, none⟩) (xkK l j).hd.length (xkK l j).hd.length ∧ g < β j ∧ β j < hi ∧ w.rowIs (β j) 5 (xkK l j).hd.length (bv (xkK l j).hd) ∧ ∀ i, i < j → β i < β j

theorem XR.xo {w wr : World} {l : List XK} (h : XR w l l.length wr) : XO w.heap.size wr.heap.size l wr := by
  obtain ⟨f, β, hf, hj⟩ := h.row
  refine ⟨f, β, hf, hf.lt, fun j hl => ?_⟩
  obtain ⟨h1, h2, h3, h4, h5, h6⟩ := hj j hl
  exact ⟨h1, h2, h3, h4, h5.lt, h5, h6⟩

theorem XO.keep {g hi : Nat} {l : List XK} {w w' : World} (h : XO g hi l w) (hk : ∀ q, g ≤ q → q < hi → w'.heap[q]? = w.heap[q]?) : XO g hi l w' := by
  obtain ⟨f, β, hf, h0, hj⟩ := h
  refine ⟨f, β, hf.of_block (hk _ (Nat.le_refl _) h0), h0, fun j hl => ?_⟩
  obtain ⟨h1, h2, h3, h4, h5, h6, h7⟩ := hj j hl
  exact ⟨h1, h2, h3, h4, h5, h6.of_block (hk _ (by omega) h5), h7⟩

theorem XO.xm {g hi : Nat} {l : List XK} {w : World} (h : XO g hi l w) : XM g hi l w := by
  obtain ⟨f, β, hf, h0, hj⟩ := h
  refine ⟨f, β, hf, h0, fun j hl => ?_⟩
  obtain ⟨h1, h2, h3, h4, h5, h6, h7⟩ := hj j hl
  exact ⟨h3, h4, h5, ⟨_, h6⟩, h7⟩

theorem XO.at {g hi : Nat} {l : List XK} {w : World} (h : XO g hi l w) : XsAt w (some ⟨g, 0, none⟩) l := by
  obtain ⟨f, β, hf, h0, hj⟩ := h
  refine .inr ⟨g, 0, rfl, hf.lt, fun k hk => ?_⟩
  obtain ⟨h1, h2, h3, _, _, h6, _⟩ := hj k hk
  rw [Nat.zero_add]
  exact ⟨by rw [hf.cell (by omega), h1], by rw [hf.cell (by omega), h2], some ⟨β k, 0, none⟩, _, by rw [hf.cell (by omega), h3], .of_row h6⟩

/-- Lists of patches of one's own, as they are copied one by one. -/
structure XXR (w : World) (L : List (List XK)) (k : Nat) (wr : World) : Prop where
  bl : Below w.heap.size w wr
  row : ∃ (f : Nat → Value) (β η : Nat → Nat), wr.rowIs w.heap.size 83 L.length f ∧ ∀ j, j < k → f j = .slice (some ⟨β j, 0, none⟩) (xxK L j).length (xxK L j).length ∧ w.heap.size < β j ∧ η j ≤ wr.heap.size ∧ XO (β j) (η j) (xxK L j) wr ∧ ∀ i, i < j → η i ≤ β j

theorem XXR.start (w : World) (L : List (List XK)) : XXR w L 0 (w.alloc (.cells (madeCells #[.slice none 0 0] L.length) 83)) :=
  ⟨(Below.refl _ _).alloc (Nat.le_refl _) _, fun _ => .slice none 0 0, fun _ => 0, fun _ => 0, World.rowIs_made w (.slice none 0 0) _ _, fun j h => absurd h (Nat.not_lt_zero _)⟩

theorem XXR.step {w wr w1 : World} {L : List (List XK)} {k : Nat} (h : XXR w L k wr) (hk : k < L.length) (hx : XR wr (xxK L k) (xxK L k).length w1) :
    XXR w L (k + 1) (w1.setCell ⟨w.heap.size, k, none⟩ (.slice (some ⟨wr.heap.size, 0, none⟩) (xxK L k).length (xxK L k).length)) := by
  obtain ⟨hb, f, β, η, hf, hj⟩ := h
  have hb1 := hx.bl
  have hf1 := rowB hf hb1
  have s1 := hf.lt
  have s2 := hb1.size
  have ho := hx.xo
  have KX : ∀ q, q ≠ w.heap.size → (w1.setCell ⟨w.heap.size, k, none⟩ (.slice (some ⟨wr.heap.size, 0, none⟩) (xxK L k).length (xxK L k).length)).heap[q]? = w1.heap[q]? := fun q hq => Deep.blk_setCell_other _ _ _ _ hq
  have KZ : (w1.setCell ⟨w.heap.size, k, none⟩ (.slice (some ⟨wr.heap.size, 0, none⟩) (xxK L k).length (xxK L k).length)).heap.size = w1.heap.size := by simp [World.setCell]
  refine ⟨(hb.trans (hb1.mono hb.size)).setCell (p := ⟨w.heap.size, k, none⟩) (Nat.le_refl _) _, _, fun j => if j = k then wr.heap.size else β j, fun j => if j = k then w1.heap.size else η j, hf1.set k _, fun j hjk => ?_⟩
  by_cases c : j = k
  · subst c
    simp only [if_true]
    refine ⟨trivial, s1, by rw [KZ]; exact Nat.le_refl _, ho.keep (fun q a b => KX q (by omega)), fun i hi => ?_⟩
    rw [if_neg (by omega)]
    exact (hj i hi).2.2.1
  · have hjk' : j < k := by omega
    obtain ⟨a1, a2, a3, a4, a5⟩ := hj j hjk'
    simp only [if_neg c]
    refine ⟨a1, a2, by rw [KZ]; omega, (a4.keep (fun q x y => hb1.block q (by omega))).keep (fun q x y => KX q (by omega)), fun i hi => ?_⟩
    rw [if_neg (by omega)]
    exact a5 i hi

theorem Try.info83 : (Try.prog.info? 83).map (fun i => (i.zero, i.size, i.bytes)) = some (some (.slice none 0 0), 1, 24) := by kernel_rfl

set_option maxHeartbeats 800000 in
theorem toPatchSS_any (a : Option Addr) (c : Nat) (L : List (List XK)) (w : World) (ha : XssAt w a L) (hl : (L.length : Int) + xxsz L ≤ 1048576) :
    Calls Try.prog 14 #[.slice a L.length c] w fun e w' => e = .returned (.slice (some ⟨w.heap.size, 0, none⟩) L.length L.length) ∧ XXR w L L.length w' := by
  have hmk := run_make_row' (P := Try.prog) 42 83 (.slice none 0 0) 24 Try.underlying42 Try.info83 rfl .i64 .i64 L.length (by omega) (by omega)
  have HA := Hid.mk' ha
  clear ha
  go_enter Try.func14, Try.ntmps14
  go_wp2
  go_loopw [4] (fun i wr => ∃ k : Nat, k ≤ L.length ∧ i = .int .i64 k ∧ XXR w L k wr) (fun i _ => L.length - (intOf i).toNat)
  case atStart => exact ⟨0, Nat.zero_le _, rfl, XXR.start w L⟩
  case round =>
    obtain ⟨k, hk, rfl, hr⟩ := hrel
    have HR := Hid.mk' hr
    clear hr hmk
    by_cases hlt : k < L.length
    · have ci : (k : Int) < (L.length : Int) := by omega
      rcases HA.out with ha | ⟨b, o, rfl, hbs, hc⟩
      · exact absurd hlt (by rw [ha]; exact Nat.not_lt_zero _)
      obtain ⟨p, d, q2, q3⟩ := hc k hlt
      have h2 := (HR.out.bl.cell hbs).trans q2
      have st := xxsz_take L k hlt
      have sl := xxsz_le L (k + 1)
      have KA := Hid.mk' (toPatchS_any p d (xxK L k) wr (q3.below HR.out.bl) (by omega))
      clear q2 q3 hc st sl
      go_wp2_with fail
      refine KA.out.mono ?_
      rintro e w1 ⟨rfl, hx⟩
      obtain ⟨f00, β00, η00, hf00, _⟩ := HR.out.row
      have hf := rowB hf00 hx.bl
      have f0 := hf.frozen k
      obtain ⟨v0, g0⟩ : ∃ v, w1.cell? ⟨w.heap.size, k, none⟩ = some v := ⟨_, hf.cell hlt⟩
      have R1 := Hid.mk' (HR.out.step hlt hx)
      clear hf hf00 hx KA h2
      go_wp2
      go_roundw
      case rel => exact ⟨k + 1, by omega, by go_num, R1.out⟩
      case measure => simp [intOf]; omega
    · have ci : ¬ (k : Int) < (L.length : Int) := by omega
      have e : k = L.length := by omega
      subst e
      go_wp2
      go_ret
      exact ⟨rfl, HR.out⟩

theorem XXR.at {w wr : World} {L : List (List XK)} (h : XXR w L L.length wr) : XssAt wr (some ⟨w.heap.size, 0, none⟩) L := by
  obtain ⟨f, β, η, hf, hj⟩ := h.row
  refine .inr ⟨w.heap.size, 0, rfl, hf.lt, fun k hk => ?_⟩
  obtain ⟨a1, _, _, a4, _⟩ := hj k hk
  exact ⟨some ⟨β k, 0, none⟩, _, by rw [Nat.zero_add, hf.cell hk, a1], a4.at⟩

set_option maxHeartbeats 1600000 in
theorem eqPatchSS_any (a b : Option Addr) (c d : Nat) (L : List (List XK)) (w : World) (ha : XssAt w a L) (hb : XssAt w b L) (hl : (L.length : Int) + xxsz L ≤ 1048576) :
    Calls Try.prog 18 #[.slice a L.length c, .slice b L.length d] w fun e w' => e = .returned (.bool true) ∧ Below w.heap.size w w' := by
  have HA := Hid.mk' ha
  have HB := Hid.mk' hb
  clear ha hb
  go_enter Try.func18, Try.ntmps18
  go_wp2
  go_loopw [5] (fun i wr => ∃ k : Nat, k ≤ L.length ∧ i = .int .i64 k ∧ Below w.heap.size w wr) (fun i _ => L.length - (intOf i).toNat)
  case atStart => exact ⟨0, Nat.zero_le _, rfl, Below.refl _ _⟩
  case round =>
    obtain ⟨k, hk, rfl, hbl⟩ := hrel
    have R2 := Hid.mk' hbl
    by_cases hlt : k < L.length
    · have ci : (k : Int) < (L.length : Int) := by omega
      rcases HA.out.below hbl with ha | ⟨b1, o1, rfl, s1, hc1⟩
      · exact absurd hlt (by rw [ha]; exact Nat.not_lt_zero _)
      rcases HB.out.below hbl with hb | ⟨b2, o2, rfl, s2, hc2⟩
      · exact absurd hlt (by rw [hb]; exact Nat.not_lt_zero _)
      obtain ⟨p1, d1, h1, h3⟩ := hc1 k hlt
      obtain ⟨p2_, d2, h4, h6⟩ := hc2 k hlt
      have st := xxsz_take L k hlt
      have sl := xxsz_le L (k + 1)
      have KE := Hid.mk' (fun v (hv : Below wr.heap.size wr v) => eqPatchS_any p1 p2_ d1 d2 (xxK L k) v (h3.below hv) (h6.below hv) (by omega))
      clear hc1 hc2 h3 h6 hbl st sl
      go_wp2
      go_region_held3 (fun w' => w'.cell? ⟨b1, o1 + k, none⟩ = some (.slice p1 (xxK L k).length d1) ∧ w'.cell? ⟨b2, o2 + k, none⟩ = some (.slice p2_ (xxK L k).length d2)) (simp [*])
        (first | (go_at_call 41; refine (KE.out _ (Below.refl _ _).drew).mono ?_; rintro e w9 ⟨rfl, hb9⟩; replace hb9 := undrew hb9; obtain ⟨hx1, hx2⟩ := bcell hb9))
      have R3 := Hid.mk' (R2.out.trans (hb9.mono R2.out.size))
      clear hx1 hx2 hb9
      go_wp2
      go_roundw
      case rel => exact ⟨k + 1, by omega, by go_num, R3.out⟩
      case measure => simp [intOf]; omega
    · have ci : ¬ (k : Int) < (L.length : Int) := by omega
      go_wp2
      go_ret
      exact ⟨rfl, hbl⟩

/-- Lists of patches of one's own at g, whatever they hold, all below hi. -/
def XXM (g hi : Nat) (L : List (List XK)) (w : World) : Prop := ∃ (f : Nat → Value) (β η : Nat → Nat), w.rowIs g 83 L.length f ∧ g < hi ∧ ∀ j, j < L.length → f j = .slice (some ⟨β j, 0, none⟩) (xxK L j).length (xxK L j).length ∧ g < β j ∧ η j ≤ hi ∧ XM (β j) (η j) (xxK L j) w ∧ ∀ i, i < j → η i ≤ β j

theorem XXR.xxm {w wr : World} {L : List (List XK)} (h : XXR w L L.length wr) : XXM w.heap.size wr.heap.size L wr := by
  obtain ⟨f, β, η, hf, hj⟩ := h.row
  refine ⟨f, β, η, hf, hf.lt, fun j hl => ?_⟩
  obtain ⟨a1, a2, a3, a4, a5⟩ := hj j hl
  exact ⟨a1, a2, a3, a4.xm, a5⟩

theorem XXM.keep {g hi : Nat} {L : List (List XK)} {w w' : World} (h : XXM g hi L w) (hk : ∀ q, g ≤ q → q < hi → w'.heap[q]? = w.heap[q]?) : XXM g hi L w' := by
  obtain ⟨f, β, η, hf, h0, hj⟩ := h
  refine ⟨f, β, η, hf.of_block (hk _ (Nat.le_refl _) h0), h0, fun j hl => ?_⟩
  obtain ⟨a1, a2, a3, a4, a5⟩ := hj j hl
  exact ⟨a1, a2, a3, a4.keep (fun q x y => hk q (by omega) (by omega)), a5⟩

theorem XM.lt {g hi : Nat} {l : List XK} {w : World} (h : XM g hi l w) : g < hi := by
  obtain ⟨f, β, hf, h0, _⟩ := h
  exact h0

set_option maxRecDepth 100000 in
set_option maxHeartbeats 3200000 in
theorem markPatchSS_bd (g hi c y : Nat) (L : List (List XK)) (w : World) (h : XXM g hi L w) (hh : hi ≤ w.heap.size) (hl : (L.length : Int) + xxsz L ≤ 1048576) (y0 : 0 < y) (y1 : y ≤ 10000000) :
    Calls Try.prog 20 #[.slice (some ⟨g, 0, none⟩) L.length c, .int .i64 (y : Int)] w fun e w' => (∃ z : Nat, e = .returned (.int .i64 (z : Int)) ∧ 0 < z ∧ z ≤ y + 2 * xxsz L) ∧ KeptIn g hi w w' := by
  obtain ⟨f, β, η, hf, hgh, hj⟩ := h
  have HF := Hid.mk' hf
  have HJ := Hid.mk' hj
  clear hf hj
  go_enter Try.func20, Try.ntmps20
  go_wp2
  go_loopw [1, 5] (fun x i wr => ∃ k z : Nat, k ≤ L.length ∧ i = .int .i64 k ∧ x = .int .i64 (z : Int) ∧ 0 < z ∧ z ≤ y + 2 * xxsz (L.take k) ∧ wr.rowIs g 83 L.length f ∧ (∀ j, k ≤ j → j < L.length → XM (β j) (η j) (xxK L j) wr) ∧ KeptIn g hi w wr) (fun _ i _ => L.length - (intOf i).toNat)
  case atStart => exact ⟨0, y, Nat.zero_le _, rfl, rfl, y0, by omega, HF.out, fun j _ h => (HJ.out j h).2.2.2.1, KeptIn.refl _ _ _⟩
  case round =>
    obtain ⟨k, z, hk, rfl, rfl, z0, z1, hf, hx, hkp⟩ := hrel
    by_cases hlt : k < L.length
    · have ci : (k : Int) < (L.length : Int) := by omega
      have st := xxsz_take L k hlt
      have sl := xxsz_le L (k + 1)
      obtain ⟨a1, a2, a3, _, a5⟩ := HJ.out k hlt
      have g0 : wr.cell? ⟨g, k, none⟩ = some (.slice (some ⟨β k, 0, none⟩) (xxK L k).length (xxK L k).length) := by rw [hf.cell hlt, a1]
      have KA := Hid.mk' (markPatchS_bd (β k) (η k) (xxK L k).length z (xxK L k) wr (hx k (Nat.le_refl _) hlt) (by omega) z0 (by omega))
      have HK := Hid.mk' hkp
      have HR := Hid.mk' hf
      have HX := Hid.mk' hx
      have A2 := Hid.mk' a2
      have A3 := Hid.mk' a3
      clear hkp hf hx a1 a2 a3 a5
      go_wp2_with fail
      refine KA.out.mono ?_
      rintro e w2 ⟨⟨zk, rfl, zk0, zk1⟩, hkk⟩
      have a2 := A2.out
      have a3 := A3.out
      have R2 := Hid.mk' (rowK HR.out hkk (.inl a2))
      have K2 := Hid.mk' (HK.out.trans (hkk.mono (by omega) a3))
      have X2 : Hid (∀ j, k + 1 ≤ j → j < L.length → XM (β j) (η j) (xxK L j) w2) := Hid.mk' (fun j h1 h2 => (HX.out j (by omega) h2).keep (fun q c1 c2 => by
        have h5 := (HJ.out j h2).2.2.2.2 k (by omega)
        have h6 := HK.out.size
        have h7 := (HJ.out j h2).2.2.1
        exact hkk.block q (by omega) (.inr (by omega))))
      clear hkk KA HK HR HX g0 a2 a3
      go_wp2
      go_roundw
      case rel => exact ⟨k + 1, zk, by omega, by go_num, rfl, zk0, by omega, R2.out, X2.out, K2.out⟩
      case measure => simp [intOf]; omega
    · have ci : ¬ (k : Int) < (L.length : Int) := by omega
      have e : k = L.length := by omega
      subst e
      rw [List.take_length] at z1
      have HK := Hid.mk' hkp
      clear hkp hf hx
      go_wp2
      go_ret
      exact ⟨⟨z, rfl, z0, z1⟩, HK.out⟩

end Go.Proofs.Ytbdjppiagjhfmaa
