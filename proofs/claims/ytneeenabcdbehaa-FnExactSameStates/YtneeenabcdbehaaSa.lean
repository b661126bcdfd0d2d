/- States of the lexer (one field, bytes): their sizes, copies, and whether two are the same. -/
import Derived.Test.YtneeenabcdbehaaWb
import Derived.Test.YtneeenabcdbehaaOwn
import Derived.Laws.BytesString
import Derived.Laws.IdiomStrings
import Derived.Deep.RegionHeld3
namespace Go.Proofs.Ytneeenabcdbehaa
open Go.RowKit
set_option linter.unusedVariables false
set_option linter.unusedSimpArgs false

/-- The text that bytes are. -/
def strI (l : List Int) : ByteArray := l.foldl (fun r n => r.push (UInt8.ofNat n.toNat)) ByteArray.empty

theorem conv_bytesT {w : World} {a : Option Addr} {l : List Int} (c : Nat) (h : BAt w a l) : (convert 22 9 (.slice a l.length c)).run Try.prog w = .ok (.string (strI l)) w := by
  rw [run_convert_bytes_string (P := Try.prog) w 22 9 5 a l.length c Try.underlying22 Try.underlying5 Try.underlying9]
  cases a with
  | none =>
    rcases h with h | ⟨b, o, e, _⟩
    · subst h
      simp [Conv.bytesToString, strI, Sem.run_pure]
    · cases e
  | some ad =>
    refine run_bytesToString w ad l.length c l ?_
    have hk := run_loadCells_list (P := Try.prog) w ad (l.map (Value.int .u8)) (fun j v hj => by
      rcases h with h | ⟨b, o, e, _, hc⟩
      · subst h; simp at hj
      · cases e
        have hjl : j < l.length := by
          have := (List.getElem?_eq_some_iff.1 hj).1
          simpa using this
        have := hc j hjl
        rw [List.getElem?_map] at hj
        rw [show (⟨b, o, none⟩ : Addr).add j = ⟨b, o + j, none⟩ from by unfold Addr.add; split; (rename_i h0; rw [h0]; rfl); rfl, this]
        simp [bv, List.getD_eq_getElem?_getD] at hj ⊢
        obtain ⟨x, hx, rfl⟩ := hj
        simp [hx])
    simpa using hk

theorem szState_any (a : Option Addr) (n c : Nat) (l : Int) (w : World) (h0 : 0 ≤ l) (h1 : l ≤ 1048576) (hn : (n : Int) ≤ 9223372036854775807) :
    Calls Try.prog 4 #[.agg #[.slice a n c], .int .i64 l] w fun e w' => e = .returned (.int .i64 (if (n : Int) ≤ l then l - n else -1)) ∧ Below w.heap.size w w' := by
  by_cases g : (n : Int) ≤ l
  · rw [if_pos g]
    go_enter Try.func4, Try.ntmps4
    go_wp2_with (go_at_call 9; refine (szByteS_any _ _ _ _ _ (by omega) (by omega) (by omega)).mono ?_; rintro e w' ⟨rfl, rfl⟩)
    go_ret
    exact ⟨rfl, (Below.refl _ _).alloc (Nat.le_refl _) _⟩
  · rw [if_neg g]
    go_enter Try.func4, Try.ntmps4
    go_wp2_with (go_at_call 9; refine (szByteS_any _ _ _ _ _ (by omega) (by omega) (by omega)).mono ?_; rintro e w' ⟨rfl, rfl⟩)
    go_ret
    exact ⟨rfl, (Below.refl _ _).alloc (Nat.le_refl _) _⟩

/-- The one cell of a state. -/
def s1 (x : Value) : Nat → Value := fun _ => x
theorem srow (w : World) (t : TypeId) (x : Value) : (w.alloc (.cells #[x] t)).rowIs w.heap.size t 1 (s1 x) := by
  refine ⟨_, Deep.blk_alloc_new _ _, rfl, fun i hi => ?_⟩
  obtain rfl : i = 0 := by omega
  simp [s1]
theorem scell {w : World} {g : Nat} {t : TypeId} {x : Value} (h : w.rowIs g t 1 (s1 x)) : w.cell? ⟨g, 0, none⟩ = some x ∧ g < w.heap.size := ⟨h.cell (by decide), h.lt⟩

set_option maxHeartbeats 400000 in
theorem toState_any (a : Option Addr) (c : Nat) (l : List Int) (w : World) (ha : BAt w a l) (hl : (l.length : Int) ≤ 1048576) :
    Calls Try.prog 6 #[.agg #[.slice a l.length c]] w fun e w' => ∃ b, e = .returned (.agg #[.slice (some ⟨b, 0, none⟩) l.length l.length]) ∧ w.heap.size ≤ b ∧ w'.rowIs b 5 l.length (bv l) ∧ Below w.heap.size w w' := by
  have B0 := (((Below.refl w.heap.size w).alloc (Nat.le_refl _) (.cells #[.slice a l.length c] 24)).alloc (by simp) (.cells #[.slice none 0 0] 27)).alloc (by simp; omega) (.cells #[.slice none 0 0] 27)
  have K := Hid.mk' (toByteS_any a c l _ (ha.below B0) hl)
  have BB := Hid.mk' B0
  clear B0 ha
  go_enter Try.func6, Try.ntmps6
  go_wp2_with fail
  refine K.out.mono ?_
  rintro e w1 ⟨b, rfl, g, r, hb⟩
  obtain ⟨hx, hy⟩ := bcell hb
  simp at hx hy
  have y := hb.size
  simp at y g
  have B := Hid.mk' (BB.out.trans (hb.mono (by simp; omega)))
  have R := Hid.mk' r
  clear K hb r BB
  go_wp2
  refine bodyPost_ret (v := .agg #[.slice (some ⟨b, 0, none⟩) l.length l.length]) (by simp [results, Try.results6, go_sem, *]) rfl ⟨b, rfl, by omega, ((R.out.setOther (a := ⟨w.heap.size + 1 + 1, 0, none⟩) (by simp; omega) _).setOther (a := ⟨w.heap.size + 1, 0, none⟩) (by simp; omega) _), (B.out.setCell (p := ⟨w.heap.size + 1 + 1, 0, none⟩) (by simp; omega) _).setCell (p := ⟨w.heap.size + 1, 0, none⟩) (by simp) _⟩

set_option maxHeartbeats 400000 in
theorem eqState_any (a b : Option Addr) (c d : Nat) (l : List Int) (w : World) (ha : BAt w a l) (hb : BAt w b l) (hl : (l.length : Int) ≤ 1048576) :
    Calls Try.prog 8 #[.agg #[.slice a l.length c], .agg #[.slice b l.length d]] w fun e w' => e = .returned (.bool true) ∧ Below w.heap.size w w' := by
  have B0 := ((Below.refl w.heap.size w).alloc (Nat.le_refl _) (.cells #[.slice a l.length c] 27)).alloc (by simp) (.cells #[.slice b l.length d] 27)
  have K := Hid.mk' (eqByteS_any a b c d l _ (ha.below B0) (hb.below B0) hl)
  have BB := Hid.mk' B0
  clear B0 ha hb
  go_enter Try.func8, Try.ntmps8
  go_wp2_with fail
  refine K.out.mono ?_
  rintro e w1 ⟨rfl, hb⟩
  have B := Hid.mk' (BB.out.trans (hb.mono (by simp; omega)))
  clear K hb BB
  go_wp2
  go_ret
  exact ⟨rfl, B.out⟩

theorem bytesEqual_any (a b : Option Addr) (c d : Nat) (l m : List Int) (w : World) (h1 : BAt w a l) (h2 : BAt w b m) :
    Calls Try.prog 11 #[.slice a l.length c, .slice b m.length d] w fun e w' => e = .returned (.bool ((strI l).toList == (strI m).toList)) ∧ w' = w := by
  have k1 := conv_bytesT c h1
  have k2 := conv_bytesT d h2
  clear h1 h2
  go_enter Try.func11, Try.ntmps11
  go_wp2
  go_ret
  exact ⟨rfl, rfl⟩

theorem implSS_any (a b : Option Addr) (c d : Nat) (l m : List Int) (w : World) (h1 : BAt w a l) (h2 : BAt w b m) :
    Calls Try.prog 7 #[.agg #[.slice a l.length c], .agg #[.slice b m.length d]] w fun e w' => e = .returned (.bool ((strI l).toList == (strI m).toList)) ∧ Below w.heap.size w w' := by
  have B0 := ((Below.refl w.heap.size w).alloc (Nat.le_refl _) (.cells #[.slice a l.length c] 27)).alloc (by simp) (.cells #[.slice b m.length d] 27)
  have K := Hid.mk' (bytesEqual_any a b c d l m _ (h1.below B0) (h2.below B0))
  have BB := Hid.mk' B0
  clear B0 h1 h2
  go_enter Try.func7, Try.ntmps7
  go_wp2_with fail
  refine K.out.mono ?_
  rintro e w1 ⟨rfl, rfl⟩
  go_wp2
  go_ret
  exact ⟨rfl, BB.out⟩

theorem specSS_any (a b : Option Addr) (c d : Nat) (l m : List Int) (w : World) (h1 : BAt w a l) (h2 : BAt w b m) :
    Calls Try.prog 5 #[.agg #[.slice a l.length c], .agg #[.slice b m.length d]] w fun e w' => e = .returned (.bool ((strI l).toList == (strI m).toList)) ∧ Below w.heap.size w w' := by
  have B0 := ((Below.refl w.heap.size w).alloc (Nat.le_refl _) (.cells #[.slice a l.length c] 27)).alloc (by simp) (.cells #[.slice b m.length d] 27)
  have k1 := conv_bytesT c (h1.below B0)
  have k2 := conv_bytesT d (h2.below B0)
  have BB := Hid.mk' B0
  clear B0 h1 h2
  go_enter Try.func5, Try.ntmps5
  go_wp2
  go_ret
  exact ⟨rfl, BB.out⟩

end Go.Proofs.Ytneeenabcdbehaa
