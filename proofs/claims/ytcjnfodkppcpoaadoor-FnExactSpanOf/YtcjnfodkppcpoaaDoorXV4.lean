/- Walks: a table copied, two tables compared. -/
import Derived.Test.YtcjnfodkppcpoaaDoorXWb
import Derived.Test.YtcjnfodkppcpoaaDoorXMath
import Derived.Test.YtcjnfodkppcpoaaDoorXOwn
import Derived.Test.YtcjnfodkppcpoaaDoorXApp
import Derived.Test.YtcjnfodkppcpoaaDoorXTxt
namespace Go.Proofs.YtcjnfodkppcpoaaDoor
open Go.RowKit
set_option linter.unusedVariables false

/-- A row behind four stores into other blocks. -/
theorem four_other {w : World} {b n c d o1 o2 o3 o4 : Nat} {t : TypeId} {f : Nat → Value} {v1 v2 v3 v4 : Value} (h : w.rowIs b t n f) (h1 : b ≠ c) (h2 : b ≠ d) :
    ((((w.setCell ⟨c, o1, none⟩ v1).setCell ⟨d, o2, none⟩ v2).setCell ⟨d, o3, none⟩ v3).setCell ⟨d, o4, none⟩ v4).rowIs b t n f :=
  (((h.setOther (a := ⟨c, o1, none⟩) h1 _).setOther (a := ⟨d, o2, none⟩) h2 _).setOther (a := ⟨d, o3, none⟩) h2 _).setOther (a := ⟨d, o4, none⟩) h2 _

end Go.Proofs.YtcjnfodkppcpoaaDoor

/- Walks of the specification's side: the fault of a table, the sum of its sizes. -/
namespace Go.Proofs.YtcjnfodkppcpoaaDoor
open Go.RowKit
set_option linter.unusedVariables false

end Go.Proofs.YtcjnfodkppcpoaaDoor

/- Walks of the program's side: the fault of a table. -/
namespace Go.Proofs.YtcjnfodkppcpoaaDoor
open Go.RowKit
set_option linter.unusedVariables false

theorem below_three {B : Nat} {w w' : World} (h : Below B w w') {o1 o2 o3 : Nat} {v1 v2 v3 : Value} : Below B w (((w'.setCell ⟨B, o1, none⟩ v1).setCell ⟨B, o2, none⟩ v2).setCell ⟨B, o3, none⟩ v3) :=
  ((h.setCell (p := ⟨B, o1, none⟩) (Nat.le_refl _) _).setCell (p := ⟨B, o2, none⟩) (Nat.le_refl _) _).setCell (p := ⟨B, o3, none⟩) (Nat.le_refl _) _

theorem join2 {B : Nat} {w a b c : World} (h : Below B w a) (h1 : Below a.heap.size a b) (h2 : Below b.heap.size b c) (hB : B ≤ a.heap.size := by first | omega | (simp; omega)) : Below B w c :=
  (h.trans (h1.mono hB)).trans (h2.mono (Nat.le_trans hB h1.size))

theorem row2 {a b c : World} {g n : Nat} {t : TypeId} {f : Nat → Value} (h : a.rowIs g t n f) (h1 : Below a.heap.size a b) (h2 : Below b.heap.size b c) : c.rowIs g t n f := by
  have h' := h.of_block (h1.block _ h.lt)
  exact h'.of_block (h2.block _ h'.lt)

/-- Each piece begins at a place that is an int64. -/
def WFT (t : TB) : Prop := ∀ k, k < t.pcs.length → (pc t.pcs k).fr ≤ 9223372036854775807

end Go.Proofs.YtcjnfodkppcpoaaDoor

/- The walk of the law on TableFault: it answers true at every table, and turns nothing that was there. -/
namespace Go.Proofs.YtcjnfodkppcpoaaDoor
open Go.RowKit
set_option linter.unusedVariables false

/-- What a law holds on to while it calls: nothing old has turned; its argument lies in its box; the argument reads as the table. -/
def Hold (w : World) (ty : TypeId) (x y z : Value) (t : TB) (wi : World) : Prop := Below w.heap.size w wi ∧ wi.rowIs w.heap.size ty 3 (r3 x y z) ∧ TAt wi (.agg #[x, y, z]) t

theorem Hold.start {w : World} {ty : TypeId} {x y z : Value} {t : TB} (ht : TAt w (.agg #[x, y, z]) t) : Hold w ty x y z t (w.alloc (.cells #[x, y, z] ty)) :=
  have B0 := (Below.refl w.heap.size w).alloc (Nat.le_refl _) (.cells #[x, y, z] ty)
  ⟨B0, row3 w ty x y z, ht.below B0⟩

theorem Hold.below {w wi wj : World} {ty : TypeId} {x y z : Value} {t : TB} (h : Hold w ty x y z t wi) (hb : Below wi.heap.size wi wj) : Hold w ty x y z t wj :=
  ⟨h.1.trans (hb.mono h.1.size), h.2.1.of_block (hb.block _ h.2.1.lt), h.2.2.below hb⟩

theorem Hold.cells {w wi : World} {ty : TypeId} {x y z : Value} {t : TB} (h : Hold w ty x y z t wi) : wi.cell? ⟨w.heap.size, 0, none⟩ = some x ∧ wi.cell? ⟨w.heap.size, 1, none⟩ = some y ∧ wi.cell? ⟨w.heap.size, 2, none⟩ = some z ∧ w.heap.size < wi.heap.size :=
  ⟨h.2.1.cell (by omega), h.2.1.cell (by omega), h.2.1.cell (by omega), h.2.1.lt⟩

theorem cells3 {w : World} {g : Nat} {ty : TypeId} {x y z : Value} (h : w.rowIs g ty 3 (r3 x y z)) : w.cell? ⟨g, 0, none⟩ = some x ∧ w.cell? ⟨g, 1, none⟩ = some y ∧ w.cell? ⟨g, 2, none⟩ = some z ∧ g < w.heap.size :=
  ⟨h.cell (by omega), h.cell (by omega), h.cell (by omega), h.lt⟩

end Go.Proofs.YtcjnfodkppcpoaaDoor

/- Walks: the size of a table, both sides, and the law on it. -/
namespace Go.Proofs.YtcjnfodkppcpoaaDoor
open Go.RowKit
set_option linter.unusedVariables false

theorem below_two {B : Nat} {w w' : World} (h : Below B w w') {c o1 o2 : Nat} {v1 v2 : Value} (hc : B ≤ c) : Below B w ((w'.setCell ⟨c, o1, none⟩ v1).setCell ⟨c, o2, none⟩ v2) :=
  (h.setCell (p := ⟨c, o1, none⟩) hc _).setCell (p := ⟨c, o2, none⟩) hc _

end Go.Proofs.YtcjnfodkppcpoaaDoor

/- Walks: memory of one's own is marked, and the marks are held. -/
namespace Go.Proofs.YtcjnfodkppcpoaaDoor
open Go.RowKit
set_option linter.unusedVariables false

set_option maxHeartbeats 400000 in
theorem markByteS_row (g cap cn n k : Nat) (f : Nat → Value) (w : World) (hr : w.rowIs g 5 cn f) (hn : n ≤ cn) (hk : (k : Int) + n ≤ 100000000) :
    Calls Tryd.prog 31 #[.slice (some ⟨g, 0, none⟩) n cap, .int .i64 k] w fun e w' => e = .returned (.int .i64 ((k : Int) + n)) ∧ w'.rowIs g 5 cn (mpart f k n) ∧ KeptIn g (g + 1) w w' := by
  go_enter Tryd.func31, Tryd.ntmps31
  go_wp2
  go_loopw [1, 5] (fun s x wr => ∃ i : Nat, i ≤ n ∧ x = .int .i64 i ∧ s = .int .i64 ((k : Int) + i) ∧ wr.rowIs g 5 cn (mpart f k i) ∧ KeptIn g (g + 1) w wr) (fun _ x _ => n - (intOf x).toNat)
  case atStart => exact ⟨0, Nat.zero_le _, rfl, by simp, hr.congr (fun j _ => by simp [mpart]), KeptIn.refl _ _ _⟩
  case round =>
    obtain ⟨i, hi, rfl, rfl, hrow, hkp⟩ := hrel
    by_cases hlt : i < n
    · have f0 := hrow.frozen i
      obtain ⟨v0, g0⟩ : ∃ v, wr.cell? ⟨g, i, none⟩ = some v := ⟨_, hrow.cell (by omega)⟩
      have R1 := Hid.mk' hrow
      have R2 := Hid.mk' hkp
      clear hrow hkp
      go_wp2
      go_roundw
      case rel => exact ⟨i + 1, by omega, by go_num, by go_num, mpart_step R1.out, R2.out.setCell (p := ⟨g, i, none⟩) (Nat.le_refl _) (Nat.lt_succ_self _) _⟩
      case measure => simp [intOf]; omega
    · go_wp2
      go_ret
      have e : i = n := by omega
      subst e
      exact ⟨rfl, hrow, hkp⟩

set_option maxHeartbeats 400000 in
theorem heldByteS_any (a : Option Addr) (c n k : Nat) (w : World) (ha : BAt w a (mb k n)) (hk : (k : Int) + n ≤ 100000000) :
    Calls Tryd.prog 32 #[.slice a n c, .int .i64 k] w fun e w' => e = .returned (.int .i64 ((k : Int) + n)) ∧ Below w.heap.size w w' := by
  go_enter Tryd.func32, Tryd.ntmps32
  go_wp2
  go_loopw [1, 5] (fun s x wr => ∃ i : Nat, i ≤ n ∧ x = .int .i64 i ∧ s = .int .i64 ((k : Int) + i) ∧ Below w.heap.size w wr) (fun _ x _ => n - (intOf x).toNat)
  case atStart => exact ⟨0, Nat.zero_le _, rfl, by simp, Below.refl _ _⟩
  case round =>
    obtain ⟨i, hi, rfl, rfl, hbl⟩ := hrel
    by_cases hlt : i < n
    · rcases ha with ha | ⟨b, o, rfl, hbs, hc⟩
      · have := congrArg List.length ha
        rw [mb_len] at this
        simp at this
        omega
      have h1 : wr.cell? ⟨b, o + i, none⟩ = some (.int .u8 (((k : Int) + i) % 256)) := by rw [hbl.cell hbs, hc i (by rw [mb_len]; exact hlt), bv_mb k n i hlt]
      have R2 := Hid.mk' hbl
      clear hbl hc
      go_wp2
      go_roundw
      case rel => exact ⟨i + 1, by omega, by go_num, by go_num, R2.out⟩
      case measure => simp [intOf]; omega
    · go_wp2
      go_ret
      have e : i = n := by omega
      subst e
      exact ⟨rfl, hbl⟩

set_option maxHeartbeats 400000 in
theorem markByteS_nil (k : Nat) (w : World) (hk : (k : Int) ≤ 100000000) :
    Calls Tryd.prog 31 #[.slice none 0 0, .int .i64 k] w fun e w' => e = .returned (.int .i64 (k : Int)) ∧ w' = w := by
  go_enter Tryd.func31, Tryd.ntmps31
  go_wp2
  go_loop [1, 5] (fun s x => x = .int .i64 0 ∧ s = .int .i64 (k : Int)) (fun _ _ => 0)
  case atStart => exact ⟨rfl, rfl⟩
  case round =>
    obtain ⟨rfl, rfl⟩ := hrel
    go_wp2
    go_ret
    exact ⟨rfl, rfl⟩

theorem markByteS_own (k : Nat) (v : Value) (l : List Int) (w : World) (h : OB w v l) (hk : (k : Int) + l.length ≤ 100000000) :
    Calls Tryd.prog 31 #[v, .int .i64 k] w fun e w' => e = .returned (.int .i64 ((k : Int) + l.length)) ∧ OB w' v (mb k l.length) ∧ Turned v w w' := by
  rcases h with ⟨rfl, rfl⟩ | ⟨g, cap, cn, f, rfl, hca, hr, hl, hf⟩
  · refine (markByteS_nil k w (by simpa using hk)).mono ?_
    rintro e w' ⟨rfl, rfl⟩
    exact ⟨by simp, .inl ⟨rfl, rfl⟩, Turned.refl _ _⟩
  · refine (markByteS_row g cap cn l.length k f w hr hl hk).mono ?_
    rintro e w' ⟨rfl, hr', hk'⟩
    exact ⟨rfl, .inr ⟨g, cap, cn, _, by rw [mb_len], by rw [mb_len]; exact hca, hr', by rw [mb_len]; exact hl, fun i hi => by rw [mb_len] at hi; rw [bv_mb _ _ _ hi]; unfold mpart; rw [if_pos hi]⟩, Turned.of_kept hk'⟩

theorem ret_num {a b : Int} (h : a = b) : Ending.returned (.int .i64 a) = .returned (.int .i64 b) := by rw [h]

end Go.Proofs.YtcjnfodkppcpoaaDoor

/- Walks: a new table, both sides. -/
namespace Go.Proofs.YtcjnfodkppcpoaaDoor
open Go.RowKit
set_option linter.unusedVariables false

/-- The pieces of a new table. -/
def newPcs (l : List Int) : List PC := if l.length = 0 then [] else [⟨false, 0, l.length⟩]
/-- A new table. -/
def newT (l : List Int) : TB := ⟨l, [], newPcs l⟩

end Go.Proofs.YtcjnfodkppcpoaaDoor

/- Walks: NewTable, both sides. -/
namespace Go.Proofs.YtcjnfodkppcpoaaDoor
open Go.RowKit
set_option linter.unusedVariables false

/-- The code of a new table, and the table beside it. -/
def newCode (l : List Int) : Int := if 240 < l.length then 6 else 0
def newTR (l : List Int) : TB := if 240 < l.length then ⟨[], [], []⟩ else newT l

theorem ob_of_row {w : World} {g n : Nat} {l : List Int} (e : l.length = n) (h : w.rowIs g 5 n (bv l)) : OB w (.slice (some ⟨g, 0, none⟩) n n) l := by
  subst e; exact .inr ⟨g, _, _, _, rfl, Nat.le_refl _, h, Nat.le_refl _, fun _ _ => rfl⟩

end Go.Proofs.YtcjnfodkppcpoaaDoor

/- Walks: the text of a table, the model's side. -/
namespace Go.Proofs.YtcjnfodkppcpoaaDoor
open Go.RowKit
set_option linter.unusedVariables false

theorem kept2 (w : World) (g o1 o2 : Nat) (v1 v2 : Value) : KeptIn g (g + 1) w ((w.setCell ⟨g, o1, none⟩ v1).setCell ⟨g, o2, none⟩ v2) :=
  ((KeptIn.refl g (g + 1) w).setCell (p := ⟨g, o1, none⟩) (Nat.le_refl _) (Nat.lt_succ_self _) _).setCell (p := ⟨g, o2, none⟩) (Nat.le_refl _) (Nat.lt_succ_self _) _

/-- The store of a piece, as a slice in memory. -/
theorem store_at {w : World} {a1 a2 : Option Addr} {c1 c2 : Nat} {t : TB} (p : PC) (h1 : BAt w a1 t.base) (h2 : BAt w a2 t.more) (h0 : 0 < (store t p).length) (k1 : t.base.length ≤ c1) (k2 : t.more.length ≤ c2) :
    ∃ b o c, (if p.ad then Value.slice a2 t.more.length c2 else Value.slice a1 t.base.length c1) = .slice (some ⟨b, o, none⟩) (store t p).length c ∧ (store t p).length ≤ c ∧ b < w.heap.size ∧ ∀ k, k < (store t p).length → w.cell? ⟨b, o + k, none⟩ = some (bv (store t p) k) := by
  unfold store at *
  cases hp : p.ad <;> rw [hp] at h0
  · rcases h1 with h1 | ⟨b, o, rfl, hb, hc⟩
    · simp [h1] at h0
    · exact ⟨b, o, c1, rfl, k1, hb, hc⟩
  · rcases h2 with h2 | ⟨b, o, rfl, hb, hc⟩
    · simp [h2] at h0
    · exact ⟨b, o, c2, rfl, k2, hb, hc⟩

/-- The bytes that are told beside the code. -/
def textVal (t : TB) : List Int := if fault t = 0 then text t else []

end Go.Proofs.YtcjnfodkppcpoaaDoor

/- Walks: the text of a table, the program's side. -/
namespace Go.Proofs.YtcjnfodkppcpoaaDoor
open Go.RowKit
set_option linter.unusedVariables false

set_option maxHeartbeats 400000 in
theorem eqBR_any (c : Int) (s u : Value) (l : List Int) (w : World) (h : ∃ a d, s = .slice a l.length d ∧ BAt w a l) (h' : ∃ a d, u = .slice a l.length d ∧ BAt w a l) (hl : (l.length : Int) ≤ 1048576) :
    Calls Tryd.prog 10 #[.agg #[.int .i64 c, s], .agg #[.int .i64 c, u]] w fun e w' => e = .returned (.bool true) ∧ Below w.heap.size w w' := by
  obtain ⟨a, d, rfl, h1⟩ := h
  obtain ⟨a', d', rfl, h2⟩ := h'
  have B0 := (below_new w (.cells #[.int .i64 c, .slice a l.length d] 26)).alloc (by simp) (.cells #[.int .i64 c, .slice a' l.length d'] 26)
  have KK := Hid.mk' (eqByteS_any a a' d d' l _ (h1.below B0) (h2.below B0) hl)
  have BB := Hid.mk' B0
  clear B0 h1 h2
  go_enter Tryd.func10, Tryd.ntmps10
  go_wp2_with fail
  refine KK.out.mono ?_
  rintro e w1 ⟨rfl, hb1⟩
  have B1 := Hid.mk' (BB.out.trans (hb1.mono BB.out.size))
  clear KK BB hb1
  go_wp2
  go_ret
  exact ⟨rfl, B1.out⟩

set_option maxHeartbeats 400000 in
theorem markBR_any (c : Int) (s : Value) (l : List Int) (w : World) (h : OB w s l) (hl : (l.length : Int) ≤ 1048576) :
    Calls Tryd.prog 13 #[.agg #[.int .i64 c, s], .int .i64 1] w fun e w' => e = .returned (.int .i64 (1 + (l.length : Int))) ∧ OB w' s (mb 1 l.length) ∧ ∃ w1, Below w.heap.size w w1 ∧ Turned s w1 w' := by
  have B0 := below_new w (.cells #[.int .i64 c, s] 26)
  have KK := Hid.mk' (markByteS_own 1 s l _ (h.below B0) (by omega))
  obtain ⟨a, d, rfl, _⟩ := h.len
  have BB := Hid.mk' B0
  clear B0 h
  go_enter Tryd.func13, Tryd.ntmps13
  go_wp2_with fail
  refine KK.out.mono ?_
  rintro e w1 ⟨rfl, o1, t1⟩
  have O1 := Hid.mk' o1
  have T1 := Hid.mk' t1
  clear KK o1 t1
  go_wp2
  go_ret
  exact ⟨rfl, O1.out, _, BB.out, T1.out⟩

set_option maxHeartbeats 400000 in
theorem heldBR_any (c : Int) (s : Value) (n : Nat) (w : World) (h : ∃ a d, s = .slice a n d ∧ BAt w a (mb 1 n)) (hl : (n : Int) ≤ 1048576) :
    Calls Tryd.prog 14 #[.agg #[.int .i64 c, s], .int .i64 1] w fun e w' => e = .returned (.int .i64 (1 + (n : Int))) ∧ Below w.heap.size w w' := by
  obtain ⟨a, d, rfl, h1⟩ := h
  have B0 := below_new w (.cells #[.int .i64 c, .slice a n d] 26)
  have KK := Hid.mk' (heldByteS_any a d n 1 _ (h1.below B0) (by omega))
  have BB := Hid.mk' B0
  clear B0 h1
  go_enter Tryd.func14, Tryd.ntmps14
  go_wp2_with fail
  refine KK.out.mono ?_
  rintro e w1 ⟨rfl, hb1⟩
  have B1 := Hid.mk' (BB.out.trans (hb1.mono BB.out.size))
  clear KK BB hb1
  go_wp2
  go_ret
  exact ⟨rfl, B1.out⟩

end Go.Proofs.YtcjnfodkppcpoaaDoor
