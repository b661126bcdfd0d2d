/- Walks: a byte escaped, both sides (a seat with tokens and a Door). -/
import Derived.Test.YtcjnfodkppcpoaaDoorXV1
import Derived.WalkKit
import Derived.WalkSpells
import Derived.WalkLawsBesides
import Derived.Laws.IdiomStrings
namespace Go.Proofs.YtcjnfodkppcpoaaDoor
open Go.RowKit
set_option linter.unusedVariables false

def escB (b : Int) : ByteArray := if b = 60 then ⟨#[38, 108, 116, 59]⟩ else if b = 62 then ⟨#[38, 103, 116, 59]⟩ else if b = 38 then ⟨#[38, 97, 109, 112, 59]⟩ else if b = 34 then ⟨#[38, 113, 117, 111, 116, 59]⟩ else ⟨#[UInt8.ofNat b.toNat]⟩

theorem conv1 (b : Int) (w : World) (h0 : 0 ≤ b) (h1 : b ≤ 255) : (convert 24 9 (.slice (some ⟨w.heap.size, 0, none⟩) 1 1)).run Tryd.prog (w.alloc (.cells #[.int .u8 b] 5)) = .ok (.string ⟨#[UInt8.ofNat b.toNat]⟩) (w.alloc (.cells #[.int .u8 b] 5)) := by
  refine run_convert_bytes_back (P := Tryd.prog) (w.alloc (.cells #[.int .u8 b] 5)) 24 9 5 ⟨w.heap.size, 0, none⟩ 1 [UInt8.ofNat b.toNat] Tryd.underlying24 Tryd.underlying5 Tryd.underlying9 ?_
  intro j hj
  obtain rfl : j = 0 := by simpa using hj
  have hb : ((UInt8.ofNat b.toNat).toNat : Int) = b := by
    rw [UInt8.toNat_ofNat']; omega
  have := World.cell?_alloc_mark w #[.int .u8 b] 5 (0, 0) 0
  simp only [Addr.add, Nat.zero_add, List.getElem_cons_zero, hb]
  exact this

set_option maxRecDepth 100000 in
set_option maxHeartbeats 400000 in
theorem l2Byte_any (b : Int) (w : World) (h0 : 0 ≤ b) (h1 : b ≤ 255) :
    Calls Tryd.prog 75 #[.int .u8 b] w fun e w' => e = .returned (.string (escB b)) ∧ Below w.heap.size w w' := by
  have hc := Hid.mk' (conv1 b w h0 h1)
  go_enter Tryd.func75, Tryd.ntmps75
  go_wp2
  · go_ret
    exact ⟨by simp_all [escB], Below.refl _ _⟩
  · go_ret
    exact ⟨by simp_all [escB], Below.refl _ _⟩
  · go_ret
    exact ⟨by simp_all [escB], Below.refl _ _⟩
  · go_ret
    exact ⟨by simp_all [escB], Below.refl _ _⟩
  · rw [hc.out]
    go_wp2
    go_ret
    exact ⟨by simp_all [escB], (Below.refl _ _).alloc (Nat.le_refl _) _⟩

/-- The cells of the table of names. -/
def refCell : Nat → Value
  | 0 => .int .u8 60
  | 1 => .string ⟨#[38, 108, 116, 59]⟩
  | 2 => .int .u8 62
  | 3 => .string ⟨#[38, 103, 116, 59]⟩
  | 4 => .int .u8 38
  | 5 => .string ⟨#[38, 97, 109, 112, 59]⟩
  | 6 => .int .u8 34
  | _ => .string ⟨#[38, 113, 117, 111, 116, 59]⟩
def Refs (w : World) : Prop := ∀ i, i < 8 → w.cell? ⟨0, i, none⟩ = some (refCell i)
theorem Refs.lt {w : World} (h : Refs w) : 0 < w.heap.size := by
  have h0 := h 0 (by decide)
  refine Nat.lt_of_not_le fun hn => ?_
  have : w.heap[0]? = none := Array.getElem?_eq_none hn
  simp [World.cell?, this] at h0
theorem Refs.below {w w' : World} (h : Refs w) (hb : Below w.heap.size w w') : Refs w' := fun i hi => by
  rw [hb.cell (p := ⟨0, i, none⟩) h.lt]; exact h i hi
def keyAt : Nat → Int
  | 0 => 60
  | 1 => 62
  | 2 => 38
  | _ => 34

theorem ix0 (w : World) : (Instr.index 131 (.agg #[.int .u8 60, .string ⟨#[38, 108, 116, 59]⟩, .int .u8 62, .string ⟨#[38, 103, 116, 59]⟩, .int .u8 38, .string ⟨#[38, 97, 109, 112, 59]⟩, .int .u8 34, .string ⟨#[38, 113, 117, 111, 116, 59]⟩]) (.int .i64 0)).run Tryd.prog w = .ok (.agg #[.int .u8 60, .string ⟨#[38, 108, 116, 59]⟩]) w := by kernel_rfl
theorem ix1 (w : World) : (Instr.index 131 (.agg #[.int .u8 60, .string ⟨#[38, 108, 116, 59]⟩, .int .u8 62, .string ⟨#[38, 103, 116, 59]⟩, .int .u8 38, .string ⟨#[38, 97, 109, 112, 59]⟩, .int .u8 34, .string ⟨#[38, 113, 117, 111, 116, 59]⟩]) (.int .i64 1)).run Tryd.prog w = .ok (.agg #[.int .u8 62, .string ⟨#[38, 103, 116, 59]⟩]) w := by kernel_rfl
theorem ix2 (w : World) : (Instr.index 131 (.agg #[.int .u8 60, .string ⟨#[38, 108, 116, 59]⟩, .int .u8 62, .string ⟨#[38, 103, 116, 59]⟩, .int .u8 38, .string ⟨#[38, 97, 109, 112, 59]⟩, .int .u8 34, .string ⟨#[38, 113, 117, 111, 116, 59]⟩]) (.int .i64 2)).run Tryd.prog w = .ok (.agg #[.int .u8 38, .string ⟨#[38, 97, 109, 112, 59]⟩]) w := by kernel_rfl
theorem ix3 (w : World) : (Instr.index 131 (.agg #[.int .u8 60, .string ⟨#[38, 108, 116, 59]⟩, .int .u8 62, .string ⟨#[38, 103, 116, 59]⟩, .int .u8 38, .string ⟨#[38, 97, 109, 112, 59]⟩, .int .u8 34, .string ⟨#[38, 113, 117, 111, 116, 59]⟩]) (.int .i64 3)).run Tryd.prog w = .ok (.agg #[.int .u8 34, .string ⟨#[38, 113, 117, 111, 116, 59]⟩]) w := by kernel_rfl

set_option maxRecDepth 100000 in
set_option maxHeartbeats 400000 in
theorem escapedByte_any (b : Int) (w : World) (h0 : 0 ≤ b) (h1 : b ≤ 255) (hr : Refs w) :
    Calls Tryd.prog 81 #[.int .u8 b] w fun e w' => e = .returned (.string (escB b)) ∧ Below w.heap.size w w' := by
  have g0 := hr 0 (by decide)
  have g1 := hr 1 (by decide)
  have g2 := hr 2 (by decide)
  have g3 := hr 3 (by decide)
  have g4 := hr 4 (by decide)
  have g5 := hr 5 (by decide)
  have g6 := hr 6 (by decide)
  have g7 := hr 7 (by decide)
  simp only [refCell] at g0 g1 g2 g3 g4 g5 g6 g7
  clear hr
  go_enter Tryd.func81, Tryd.ntmps81
  go_wp2
  clear g0 g1 g2 g3 g4 g5 g6 g7
  go_loopw [6] (fun i wr => ∃ k : Nat, k ≤ 4 ∧ i = .int .i64 k ∧ (∀ j, j < k → ¬ b = keyAt j) ∧ Below w.heap.size w wr) (fun i _ => 4 - (intOf i).toNat)
  case atStart => exact ⟨0, by decide, rfl, fun j h => by omega, Below.refl _ _⟩
  case round =>
    obtain ⟨k, hk, rfl, hn, hb⟩ := hrel
    have HB := Hid.mk' hb
    have hs := hb.size
    have HN := Hid.mk' hn
    clear hb hn
    have hc := Hid.mk' (conv1 b wr h0 h1)
    match k, hk with
    | 0, _ =>
      go_wp2
      rw [show ((0 : Nat) : Int) = 0 from rfl, ix0 wr]
      go_wp2
      · go_ret
        rename_i hq
        have hq' := eq_of_beq hq
        refine ⟨?_, HB.out.alloc hs _⟩
        subst hq'
        rfl
      · rename_i hq
        refine ⟨⟨1, by decide, rfl, fun j hj => ?_, HB.out.alloc hs _⟩, by decide⟩
        by_cases hjk : j = 0
        · subst hjk
          intro e
          subst e
          simp [keyAt] at hq
        · exact HN.out j (by omega)
    | 1, _ =>
      go_wp2
      rw [show ((1 : Nat) : Int) = 1 from rfl, ix1 wr]
      go_wp2
      · go_ret
        rename_i hq
        have hq' := eq_of_beq hq
        refine ⟨?_, HB.out.alloc hs _⟩
        subst hq'
        rfl
      · rename_i hq
        refine ⟨⟨2, by decide, rfl, fun j hj => ?_, HB.out.alloc hs _⟩, by decide⟩
        by_cases hjk : j = 1
        · subst hjk
          intro e
          subst e
          simp [keyAt] at hq
        · exact HN.out j (by omega)
    | 2, _ =>
      go_wp2
      rw [show ((2 : Nat) : Int) = 2 from rfl, ix2 wr]
      go_wp2
      · go_ret
        rename_i hq
        have hq' := eq_of_beq hq
        refine ⟨?_, HB.out.alloc hs _⟩
        subst hq'
        rfl
      · rename_i hq
        refine ⟨⟨3, by decide, rfl, fun j hj => ?_, HB.out.alloc hs _⟩, by decide⟩
        by_cases hjk : j = 2
        · subst hjk
          intro e
          subst e
          simp [keyAt] at hq
        · exact HN.out j (by omega)
    | 3, _ =>
      go_wp2
      rw [show ((3 : Nat) : Int) = 3 from rfl, ix3 wr]
      go_wp2
      · go_ret
        rename_i hq
        have hq' := eq_of_beq hq
        refine ⟨?_, HB.out.alloc hs _⟩
        subst hq'
        rfl
      · rename_i hq
        refine ⟨⟨4, by decide, rfl, fun j hj => ?_, HB.out.alloc hs _⟩, by decide⟩
        by_cases hjk : j = 3
        · subst hjk
          intro e
          subst e
          simp [keyAt] at hq
        · exact HN.out j (by omega)
    | 4, _ => 
      go_wp2
      rw [hc.out]
      go_wp2
      go_ret
      refine ⟨?_, HB.out.alloc hs _⟩
      have q0 := HN.out 0 (by decide)
      have q1 := HN.out 1 (by decide)
      have q2 := HN.out 2 (by decide)
      have q3 := HN.out 3 (by decide)
      simp only [keyAt] at q0 q1 q2 q3
      simp [escB, q0, q1, q2, q3]

/-- The code and the text of a byte that is escaped. -/
def ebCode (b : Int) : Int := if 0 ≤ b ∧ b ≤ 255 then 0 else 3
def ebText (b : Int) : ByteArray := if 0 ≤ b ∧ b ≤ 255 then escB b else ⟨#[]⟩

set_option maxRecDepth 100000 in
set_option maxHeartbeats 400000 in
theorem implEB_any (b : Int) (w : World) (hr : Refs w) :
    Calls Tryd.prog 78 #[.int .i64 b] w fun e w' => e = .returned (.agg #[.int .i64 (ebCode b), .string (ebText b)]) ∧ Below w.heap.size w w' := by
  unfold ebCode ebText
  have B0 := (Below.refl w.heap.size w).alloc (Nat.le_refl _) (.cells #[.int .i64 0, .string ⟨#[]⟩] 85)
  have RR := Hid.mk' (hr.below B0)
  have BB := Hid.mk' B0
  clear hr B0
  by_cases h : 0 ≤ b ∧ b ≤ 255
  · rw [if_pos h, if_pos h]
    obtain ⟨h0, h1⟩ := h
    have G := Hid.mk' (escapedByte_any b (w.alloc (.cells #[.int .i64 0, .string ⟨#[]⟩] 85)) h0 h1 RR.out)
    have hw : IntKind.u8.wrap b = b := by unfold IntKind.wrap; simp [IntKind.bits, IntKind.signed]; omega
    clear RR
    go_enter Tryd.func78, Tryd.ntmps78
    go_wp2_with fail
    refine G.out.mono ?_
    rintro e w2 ⟨rfl, hb⟩
    obtain ⟨hx, hy⟩ := bcell hb
    simp at hx hy
    have y := hb.size
    simp at y
    have B := Hid.mk' (BB.out.trans (hb.mono (by simp)))
    clear G hb
    go_wp2
    exact bodyPost_ret (v := .agg #[.int .i64 0, .string (escB b)]) (by simp [results, Tryd.results78, go_sem, *]) rfl ⟨rfl, (B.out.setCell (p := ⟨w.heap.size, 0, none⟩) (Nat.le_refl _) _).setCell (p := ⟨w.heap.size, 1, none⟩) (Nat.le_refl _) _⟩
  · rw [if_neg h, if_neg h]
    clear RR
    by_cases h0 : b < 0
    · clear h
      go_enter Tryd.func78, Tryd.ntmps78
      go_wp2
      exact bodyPost_ret (v := .agg #[.int .i64 3, .string ⟨#[]⟩]) (by simp [results, Tryd.results78, go_sem, *]) rfl ⟨rfl, (Below.refl _ _).alloc (Nat.le_refl _) _⟩
    · have h1 : 255 < b := by omega
      clear h
      go_enter Tryd.func78, Tryd.ntmps78
      go_wp2
      exact bodyPost_ret (v := .agg #[.int .i64 3, .string ⟨#[]⟩]) (by simp [results, Tryd.results78, go_sem, *]) rfl ⟨rfl, (Below.refl _ _).alloc (Nat.le_refl _) _⟩

end Go.Proofs.YtcjnfodkppcpoaaDoor
