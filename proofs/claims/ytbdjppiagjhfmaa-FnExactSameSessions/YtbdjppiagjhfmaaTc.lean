/- Walks: a token copied; attributes and tokens compared. -/
import Derived.Test.YtbdjppiagjhfmaaTb
namespace Go.Proofs.Ytbdjppiagjhfmaa
open Go.RowKit
set_option linter.unusedVariables false

/-- The i-th of five cells. -/
def r5 (x y z u v : Value) (i : Nat) : Value := if i = 0 then x else if i = 1 then y else if i = 2 then z else if i = 3 then u else v

theorem row5 (w : World) (t : TypeId) (x y z u v : Value) : (w.alloc (.cells #[x, y, z, u, v] t)).rowIs w.heap.size t 5 (r5 x y z u v) :=
  ⟨_, Deep.blk_alloc_new _ _, rfl, fun i hi => by
    have : i = 0 ∨ i = 1 ∨ i = 2 ∨ i = 3 ∨ i = 4 := by omega
    rcases this with rfl | rfl | rfl | rfl | rfl <;> rfl⟩

theorem cells5 {w : World} {g : Nat} {ty : TypeId} {x y z u v : Value} (h : w.rowIs g ty 5 (r5 x y z u v)) : w.cell? ⟨g, 0, none⟩ = some x ∧ w.cell? ⟨g, 1, none⟩ = some y ∧ w.cell? ⟨g, 2, none⟩ = some z ∧ w.cell? ⟨g, 3, none⟩ = some u ∧ w.cell? ⟨g, 4, none⟩ = some v ∧ g < w.heap.size :=
  ⟨h.cell (by omega), h.cell (by omega), h.cell (by omega), h.cell (by omega), h.cell (by omega), h.lt⟩

/-- A row of attributes of one's own at g; the bytes of each one behind it. -/
def AO (g : Nat) (l : List AT) (w : World) : Prop := ∃ f, w.rowIs g 159 (l.length * 2) f ∧ ∀ j, j < l.length → f (j * 2) = .string (atK l j).nm ∧ ∃ b, f (j * 2 + 1) = .slice (some ⟨b, 0, none⟩) (atK l j).vl.length (atK l j).vl.length ∧ g < b ∧ w.rowIs b 5 (atK l j).vl.length (bv (atK l j).vl)

theorem AO.below {g : Nat} {l : List AT} {w w1 : World} (h : AO g l w) (hb : Below w.heap.size w w1) : AO g l w1 := by
  obtain ⟨f, hf, hj⟩ := h
  refine ⟨f, rowB hf hb, fun j hk => ?_⟩
  obtain ⟨h1, b, h2, h3, h4⟩ := hj j hk
  exact ⟨h1, b, h2, h3, rowB h4 hb⟩

theorem AO.of {w wr w1 : World} {l : List AT} {lo hi : Nat} (h : AR w l l.length wr) (hk : KeptIn lo hi wr w1) (hhi : hi ≤ w.heap.size) : AO w.heap.size l w1 := by
  obtain ⟨f, hf, hj⟩ := h.row
  refine ⟨f, rowK hf hk (.inr hhi), fun j hjk => ?_⟩
  obtain ⟨h1, b, h2, h3, h4⟩ := hj j hjk
  exact ⟨h1, b, h2, h3, rowK h4 hk (.inr (by omega))⟩

theorem AO.at {g : Nat} {l : List AT} {w : World} (h : AO g l w) : AAt w (some ⟨g, 0, none⟩) l := by
  obtain ⟨f, hf, hj⟩ := h
  refine .inr ⟨_, _, rfl, hf.lt, fun k hk => ?_⟩
  obtain ⟨h1, b, h2, h3, h4⟩ := hj k hk
  have c1 : w.cell? ⟨g, k * 2, none⟩ = some (f (k * 2)) := hf.cell (by omega)
  have c2 : w.cell? ⟨g, k * 2 + 1, none⟩ = some (f (k * 2 + 1)) := hf.cell (by omega)
  refine ⟨by rw [Nat.zero_add, c1, h1], _, _, by rw [Nat.zero_add, c2, h2], ?_⟩
  exact .inr ⟨b, 0, rfl, h4.lt, fun i hi => by rw [Nat.zero_add]; exact h4.cell hi⟩

set_option maxHeartbeats 1600000 in
theorem toToken_any (t : TK) (a : Option Addr) (c : Nat) (w : World) (ha : AAt w a t.at_) (hl : (t.at_.length : Int) + asz t.at_ ≤ 1048576) :
    Calls Try.prog 97 #[.agg #[.int .i64 t.kd, .int .i64 t.by_, .string t.nm, .slice a t.at_.length c, .bool t.sh]] w fun e w' => ∃ g, e = .returned (.agg #[.int .i64 t.kd, .int .i64 t.by_, .string t.nm, .slice (some ⟨g, 0, none⟩) t.at_.length t.at_.length, .bool t.sh]) ∧ w.heap.size ≤ g ∧ AO g t.at_ w' ∧ Below w.heap.size w w' := by
  have B0 := ((Below.refl w.heap.size w).alloc (Nat.le_refl _) (.cells #[.int .i64 t.kd, .int .i64 t.by_, .string t.nm, .slice a t.at_.length c, .bool t.sh] 132)).alloc (by simp) (.cells #[.int .i64 0, .int .i64 0, .string ⟨#[]⟩, .slice none 0 0, .bool false] 140)
  have B1 := B0.alloc (by simp; omega) (.cells #[.int .i64 t.kd, .int .i64 t.by_, .string t.nm, .slice none 0 0, .bool false] 140)
  have RP := ((row5 w 132 (.int .i64 t.kd) (.int .i64 t.by_) (.string t.nm) (.slice a t.at_.length c) (.bool t.sh)).alloc (.cells #[.int .i64 0, .int .i64 0, .string ⟨#[]⟩, .slice none 0 0, .bool false] 140)).alloc (.cells #[.int .i64 t.kd, .int .i64 t.by_, .string t.nm, .slice none 0 0, .bool false] 140)
  have RR := (row5 (w.alloc (.cells #[.int .i64 t.kd, .int .i64 t.by_, .string t.nm, .slice a t.at_.length c, .bool t.sh] 132)) 140 (.int .i64 0) (.int .i64 0) (.string ⟨#[]⟩) (.slice none 0 0) (.bool false)).alloc (.cells #[.int .i64 t.kd, .int .i64 t.by_, .string t.nm, .slice none 0 0, .bool false] 140)
  have RO := row5 ((w.alloc (.cells #[.int .i64 t.kd, .int .i64 t.by_, .string t.nm, .slice a t.at_.length c, .bool t.sh] 132)).alloc (.cells #[.int .i64 0, .int .i64 0, .string ⟨#[]⟩, .slice none 0 0, .bool false] 140)) 140 (.int .i64 t.kd) (.int .i64 t.by_) (.string t.nm) (.slice none 0 0) (.bool false)
  have KB := Hid.mk' (toAttrS_any a c t.at_ _ (ha.below B1) hl)
  have HB := Hid.mk' B1
  have z1 : (w.alloc (.cells #[.int .i64 t.kd, .int .i64 t.by_, .string t.nm, .slice a t.at_.length c, .bool t.sh] 132)).heap.size = w.heap.size + 1 := by simp
  have z2 : ((w.alloc (.cells #[.int .i64 t.kd, .int .i64 t.by_, .string t.nm, .slice a t.at_.length c, .bool t.sh] 132)).alloc (.cells #[.int .i64 0, .int .i64 0, .string ⟨#[]⟩, .slice none 0 0, .bool false] 140)).heap.size = w.heap.size + 1 + 1 := by simp
  have z3 : (((w.alloc (.cells #[.int .i64 t.kd, .int .i64 t.by_, .string t.nm, .slice a t.at_.length c, .bool t.sh] 132)).alloc (.cells #[.int .i64 0, .int .i64 0, .string ⟨#[]⟩, .slice none 0 0, .bool false] 140)).alloc (.cells #[.int .i64 t.kd, .int .i64 t.by_, .string t.nm, .slice none 0 0, .bool false] 140)).heap.size = w.heap.size + 1 + 1 + 1 := by simp
  rw [z1] at RR
  rw [z2] at RO
  have HR := Hid.mk' RR
  have HO := Hid.mk' RO
  have HP := Hid.mk' RP
  have Z3 := Hid.mk' z3
  clear ha B0 B1 RR RO RP z1 z2 z3
  generalize hW : ((w.alloc (.cells #[.int .i64 t.kd, .int .i64 t.by_, .string t.nm, .slice a t.at_.length c, .bool t.sh] 132)).alloc (.cells #[.int .i64 0, .int .i64 0, .string ⟨#[]⟩, .slice none 0 0, .bool false] 140)).alloc (.cells #[.int .i64 t.kd, .int .i64 t.by_, .string t.nm, .slice none 0 0, .bool false] 140) = W at *
  obtain ⟨p0, p1, p2_, p3, p4, p5⟩ := cells5 HP.out
  go_enter Try.func97, Try.ntmps97
  go_wp2_with fail
  clear hW p0 p1 p2_ p3 p4 p5
  refine KB.out.mono ?_
  rintro e w1 ⟨rfl, har⟩
  have hbl := har.bl
  have Hp := rowB HP.out hbl
  have Ho := rowB HO.out hbl
  have Hr := rowB HR.out hbl
  obtain ⟨p0, p1, p2_, p3, p4, p5⟩ := cells5 Hp
  obtain ⟨o0, o1, o2, o3, o4, o5⟩ := cells5 Ho
  obtain ⟨r0, r1, r2, r3_, r4_, r5_⟩ := cells5 Hr
  have fo3 := Ho.frozen 3
  have fo4 := Ho.frozen 4
  have fr0 := Hr.frozen 0
  have fr1 := Hr.frozen 1
  have fr2 := Hr.frozen 2
  have fr3 := Hr.frozen 3
  have fr4 := Hr.frozen 4
  have HA := Hid.mk' har
  have zz := Z3.out
  have hwl : w.heap.size + 1 ≤ w1.heap.size := by have := hbl.size; omega
  have zz' := Hid.mk' zz
  clear har hbl Ho Hr Hp KB HO HR HP zz
  go_wp2
  refine bodyPost_ret (v := .agg #[.int .i64 t.kd, .int .i64 t.by_, .string t.nm, .slice (some ⟨W.heap.size, 0, none⟩) t.at_.length t.at_.length, .bool t.sh]) (by simp [results, Try.results97, go_sem, *]) rfl ?_
  have zz := zz'.out
  have KK := (((((((KeptIn.refl (w.heap.size + 1) (w.heap.size + 1 + 1 + 1) w1).setCell (p := ⟨w.heap.size + 1 + 1, 3, none⟩) (by simp) (by simp) (.slice (some ⟨W.heap.size, 0, none⟩) t.at_.length t.at_.length)).setCell (p := ⟨w.heap.size + 1 + 1, 4, none⟩) (by simp) (by simp) (.bool t.sh)).setCell (p := ⟨w.heap.size + 1, 0, none⟩) (by simp) (by simp) (.int .i64 t.kd)).setCell (p := ⟨w.heap.size + 1, 1, none⟩) (by simp) (by simp) (.int .i64 t.by_)).setCell (p := ⟨w.heap.size + 1, 2, none⟩) (by simp) (by simp) (.string t.nm)).setCell (p := ⟨w.heap.size + 1, 3, none⟩) (by simp) (by simp) (.slice (some ⟨W.heap.size, 0, none⟩) t.at_.length t.at_.length)).setCell (p := ⟨w.heap.size + 1, 4, none⟩) (by simp) (by simp) (.bool t.sh)
  exact ⟨W.heap.size, rfl, by omega, AO.of HA.out KK (by omega), (HB.out.trans (HA.out.bl.mono HB.out.size)).trans (KK.below (by omega) (by omega))⟩

set_option maxHeartbeats 400000 in
theorem eqAttr_any (s : ByteArray) (a b : Option Addr) (c d : Nat) (l : List Int) (w : World) (ha : BAt w a l) (hb : BAt w b l) (hl : (l.length : Int) ≤ 1048576) :
    Calls Try.prog 118 #[.agg #[.string s, .slice a l.length c], .agg #[.string s, .slice b l.length d]] w fun e w' => e = .returned (.bool true) ∧ Below w.heap.size w w' := by
  have B0 := ((Below.refl w.heap.size w).alloc (Nat.le_refl _) (.cells #[.string s, .slice a l.length c] 159)).alloc (by simp) (.cells #[.string s, .slice b l.length d] 159)
  have KB := Hid.mk' (eqByteS_any a b c d l _ (ha.below B0) (hb.below B0) hl)
  have HB := Hid.mk' B0
  clear ha hb B0
  go_enter Try.func118, Try.ntmps118
  go_wp2_with fail
  refine KB.out.mono ?_
  rintro e w1 ⟨rfl, hb⟩
  have HB := Hid.mk' (HB.out.trans (hb.mono HB.out.size))
  clear hb KB
  go_wp2
  go_ret
  exact ⟨rfl, HB.out⟩

end Go.Proofs.Ytbdjppiagjhfmaa
