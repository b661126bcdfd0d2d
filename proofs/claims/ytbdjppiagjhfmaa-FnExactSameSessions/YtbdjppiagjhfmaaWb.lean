/- Walks: pieces copied; bytes and pieces compared. -/
import Derived.Test.YtbdjppiagjhfmaaWa
import Derived.BigQuiet
import Derived.Deep.QuietTactic
import Derived.Deep.RegionHeld3
import Derived.WalkSmall
namespace Go.Proofs.Ytbdjppiagjhfmaa
open Go.RowKit
set_option linter.unusedVariables false

theorem Try.info116 : (Try.prog.info? 116).map (fun i => (i.zero, i.size, i.bytes)) = some (some (.agg #[.bool false, .int .i64 0, .int .i64 0]), 3, 24) := by kernel_rfl

set_option maxHeartbeats 400000 in
theorem toPieceS_any (a : Option Addr) (c : Nat) (l : List PC) (w : World) (ha : PAt w a l) (hl : (l.length : Int) ≤ 1048576) :
    Calls Try.prog 77 #[.slice a l.length c] w fun e w' => ∃ b, e = .returned (.slice (some ⟨b, 0, none⟩) l.length l.length) ∧ w.heap.size ≤ b ∧ w'.rowIs b 116 (l.length * 3) (pv l) ∧ Below w.heap.size w w' := by
  have hmk := make_pieces (P := Try.prog) 62 116 Try.underlying62 Try.info116 l.length hl
  go_enter Try.func77, Try.ntmps77
  go_wp2
  go_loopw [4] (fun i wr => ∃ k : Nat, k ≤ l.length ∧ i = .int .i64 k ∧ wr.rowIs w.heap.size 116 (l.length * 3) (ppart l k) ∧ Below w.heap.size w wr) (fun i _ => l.length - (intOf i).toNat)
  case atStart => exact ⟨0, Nat.zero_le _, rfl, row_ppart_start w 116 l _, (Below.refl _ _).alloc (Nat.le_refl _) _⟩
  case round =>
    obtain ⟨k, hk, rfl, hrow, hbl⟩ := hrel
    by_cases hlt : k < l.length
    · rcases ha with ha | ⟨b, o, rfl, hbs, hc⟩
      · exact absurd hlt (by rw [ha]; exact Nat.not_lt_zero _)
      obtain ⟨hc1, hc2, hc3⟩ := hc k hlt
      have h1 : wr.cell? ⟨b, o + k * 3, none⟩ = some (.bool (pc l k).ad) := (hbl.cell hbs).trans hc1
      have h2 : wr.cell? ⟨b, o + k * 3 + 1, none⟩ = some (.int .i64 (pc l k).fr) := (hbl.cell hbs).trans hc2
      have h3 : wr.cell? ⟨b, o + k * 3 + 2, none⟩ = some (.int .i64 (pc l k).sz) := (hbl.cell hbs).trans hc3
      clear hmk hc hc1 hc2 hc3
      go_wp2_with fail
      refine (toPiece_any _ _ _ _).mono ?_
      rintro e w1 ⟨rfl, hb1⟩
      have hrow1 := hrow.of_block (hb1.block _ hrow.lt)
      have f0 := hrow1.frozen (k * 3)
      have f1 := hrow1.frozen (k * 3 + 1)
      have f2 := hrow1.frozen (k * 3 + 2)
      obtain ⟨v0, g0⟩ : ∃ v, w1.cell? ⟨w.heap.size, k * 3, none⟩ = some v := ⟨_, hrow1.cell (by omega)⟩
      obtain ⟨v1, g1⟩ : ∃ v, w1.cell? ⟨w.heap.size, k * 3 + 1, none⟩ = some v := ⟨_, hrow1.cell (by omega)⟩
      obtain ⟨v2, g2⟩ : ∃ v, w1.cell? ⟨w.heap.size, k * 3 + 2, none⟩ = some v := ⟨_, hrow1.cell (by omega)⟩
      have R1 := Hid.mk' (row_ppart_step hrow1)
      have R2 := Hid.mk' ((((hbl.trans (hb1.mono hbl.size)).setCell (p := ⟨w.heap.size, k * 3, none⟩) (Nat.le_refl _) (.bool (pc l k).ad)).setCell (p := ⟨w.heap.size, k * 3 + 1, none⟩) (Nat.le_refl _) (.int .i64 (pc l k).fr)).setCell (p := ⟨w.heap.size, k * 3 + 2, none⟩) (Nat.le_refl _) (.int .i64 (pc l k).sz))
      clear h1 h2 h3 hrow hrow1 hbl hb1
      go_wp2
      go_roundw
      case rel => exact ⟨k + 1, by omega, by go_num, R1.out, R2.out⟩
      case measure => simp [intOf]; omega
    · go_wp2
      go_ret
      have e : k = l.length := by omega
      subst e
      exact ⟨_, rfl, Nat.le_refl _, row_ppart_end hrow, hbl⟩

set_option maxHeartbeats 400000 in
theorem eqByteS_any (a b : Option Addr) (c d : Nat) (l : List Int) (w : World) (ha : BAt w a l) (hb : BAt w b l) (hl : (l.length : Int) ≤ 1048576) :
    Calls Try.prog 17 #[.slice a l.length c, .slice b l.length d] w fun e w' => e = .returned (.bool true) ∧ Below w.heap.size w w' := by
  go_enter Try.func17, Try.ntmps17
  go_wp2
  go_loopw [5] (fun i wr => ∃ k : Nat, k ≤ l.length ∧ i = .int .i64 k ∧ Below w.heap.size w wr) (fun i _ => l.length - (intOf i).toNat)
  case atStart => exact ⟨0, Nat.zero_le _, rfl, Below.refl _ _⟩
  case round =>
    obtain ⟨k, hk, rfl, hbl⟩ := hrel
    by_cases hlt : k < l.length
    · rcases ha with ha | ⟨b1, o1, rfl, hbs1, hc1⟩
      · exact absurd hlt (by rw [ha]; exact Nat.not_lt_zero _)
      rcases hb with hb | ⟨b2, o2, rfl, hbs2, hc2⟩
      · exact absurd hlt (by rw [hb]; exact Nat.not_lt_zero _)
      obtain ⟨x, hx⟩ : ∃ x, bv l k = .int .u8 x := ⟨_, rfl⟩
      have h1 : wr.cell? ⟨b1, o1 + k, none⟩ = some (.int .u8 x) := hx ▸ (hbl.cell hbs1).trans (hc1 k hlt)
      have h2 : wr.cell? ⟨b2, o2 + k, none⟩ = some (.int .u8 x) := hx ▸ (hbl.cell hbs2).trans (hc2 k hlt)
      have R2 := Hid.mk' hbl
      clear hbl hc1 hc2 hx
      go_wp2
      go_quiet (fail)
      go_wp2
      go_roundw
      case rel => exact ⟨k + 1, by omega, by go_num, below_drewN R2.out _⟩
      case measure => simp [intOf]; omega
    · go_wp2
      go_ret
      exact ⟨rfl, hbl⟩

/-- Behind a call that turns nothing old: each old cell reads as it did. -/
theorem bcell {W w1 : World} (hb : Below W.heap.size W w1) : (∀ b o, b < W.heap.size → w1.cell? ⟨b, o, none⟩ = W.cell? ⟨b, o, none⟩) ∧ (∀ b o, b < W.heap.size → w1.frozen? ⟨b, o, none⟩ = W.frozen? ⟨b, o, none⟩) :=
  ⟨fun b o h => hb.cell (p := ⟨b, o, none⟩) h, fun b o h => hb.frozen (p := ⟨b, o, none⟩) h⟩

theorem undrew {W w1 : World} (h : Below W.drew.heap.size W.drew w1) : Below W.heap.size W w1 := ⟨h.os, h.tape, h.output, h.size, h.block⟩

set_option maxHeartbeats 400000 in
theorem eqPieceS_any (a b : Option Addr) (c d : Nat) (l : List PC) (w : World) (ha : PAt w a l) (hb : PAt w b l) (hl : (l.length : Int) ≤ 1048576) :
    Calls Try.prog 84 #[.slice a l.length c, .slice b l.length d] w fun e w' => e = .returned (.bool true) ∧ Below w.heap.size w w' := by
  go_enter Try.func84, Try.ntmps84
  go_wp2
  go_loopw [5] (fun i wr => ∃ k : Nat, k ≤ l.length ∧ i = .int .i64 k ∧ Below w.heap.size w wr) (fun i _ => l.length - (intOf i).toNat)
  case atStart => exact ⟨0, Nat.zero_le _, rfl, Below.refl _ _⟩
  case round =>
    obtain ⟨k, hk, rfl, hbl⟩ := hrel
    by_cases hlt : k < l.length
    · rcases ha with ha | ⟨b1, o1, rfl, hbs1, hc1⟩
      · exact absurd hlt (by rw [ha]; exact Nat.not_lt_zero _)
      rcases hb with hb | ⟨b2, o2, rfl, hbs2, hc2⟩
      · exact absurd hlt (by rw [hb]; exact Nat.not_lt_zero _)
      obtain ⟨q1, q2, q3⟩ := hc1 k hlt
      obtain ⟨r1, r2, r3⟩ := hc2 k hlt
      have h1 : wr.cell? ⟨b1, o1 + k * 3, none⟩ = some (.bool (pc l k).ad) := (hbl.cell hbs1).trans q1
      have h2 : wr.cell? ⟨b1, o1 + k * 3 + 1, none⟩ = some (.int .i64 (pc l k).fr) := (hbl.cell hbs1).trans q2
      have h3 : wr.cell? ⟨b1, o1 + k * 3 + 2, none⟩ = some (.int .i64 (pc l k).sz) := (hbl.cell hbs1).trans q3
      have h4 : wr.cell? ⟨b2, o2 + k * 3, none⟩ = some (.bool (pc l k).ad) := (hbl.cell hbs2).trans r1
      have h5 : wr.cell? ⟨b2, o2 + k * 3 + 1, none⟩ = some (.int .i64 (pc l k).fr) := (hbl.cell hbs2).trans r2
      have h6 : wr.cell? ⟨b2, o2 + k * 3 + 2, none⟩ = some (.int .i64 (pc l k).sz) := (hbl.cell hbs2).trans r3
      have s1 : b1 < wr.heap.size := Nat.lt_of_lt_of_le hbs1 hbl.size
      have s2 : b2 < wr.heap.size := Nat.lt_of_lt_of_le hbs2 hbl.size
      have R2 := Hid.mk' hbl
      clear hbl hc1 hc2 q1 q2 q3 r1 r2 r3
      go_wp2
      go_region_held3 (fun w' => w'.cell? ⟨b1, o1 + k * 3, none⟩ = some (.bool (pc l k).ad) ∧ w'.cell? ⟨b1, o1 + k * 3 + 1, none⟩ = some (.int .i64 (pc l k).fr) ∧ w'.cell? ⟨b1, o1 + k * 3 + 2, none⟩ = some (.int .i64 (pc l k).sz) ∧ w'.cell? ⟨b2, o2 + k * 3, none⟩ = some (.bool (pc l k).ad) ∧ w'.cell? ⟨b2, o2 + k * 3 + 1, none⟩ = some (.int .i64 (pc l k).fr) ∧ w'.cell? ⟨b2, o2 + k * 3 + 2, none⟩ = some (.int .i64 (pc l k).sz)) (simp [*])
        ((go_at_call 102; refine (eqPiece_any _ _ _ _).mono ?_; rintro e w1 ⟨rfl, hb1⟩; replace hb1 := undrew hb1; obtain ⟨hx1, hx2⟩ := bcell hb1))
      go_wp2
      go_roundw
      case rel => exact ⟨k + 1, by omega, by go_num, R2.out.trans (hb1.mono R2.out.size)⟩
      case measure => simp [intOf]; omega
    · go_wp2
      go_ret
      exact ⟨rfl, hbl⟩

end Go.Proofs.Ytbdjppiagjhfmaa
