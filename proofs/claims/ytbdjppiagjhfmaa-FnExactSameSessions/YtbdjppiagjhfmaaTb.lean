/- Walks: attributes and tokens copied. -/
import Derived.Test.YtbdjppiagjhfmaaTa
namespace Go.Proofs.Ytbdjppiagjhfmaa
open Go.RowKit
set_option linter.unusedVariables false

theorem Try.info159 : (Try.prog.info? 159).map (fun i => (i.zero, i.size, i.bytes)) = some (some (.agg #[.string ⟨#[]⟩, .slice none 0 0]), 2, 40) := by kernel_rfl

theorem make_attrs {P : Program} (t e : TypeId) (ht : P.underlying t = some (.slice e)) (hinfo : (P.info? e).map (fun i => (i.zero, i.size, i.bytes)) = some (some (.agg #[.string ⟨#[]⟩, .slice none 0 0]), 2, 40))
    (n : Nat) (hn : (n : Int) ≤ 1048576) (w : World) :
    (Instr.makeSlice t (.int .i64 (n : Int)) (.int .i64 (n : Int))).run P w = .ok (.slice (some ⟨w.heap.size, 0, none⟩) n n) (w.alloc (.cells (madeCells #[.string ⟨#[]⟩, .slice none 0 0] (n * 2)) e)) := by
  obtain ⟨i, hi, hzz⟩ := Option.map_eq_some_iff.1 hinfo
  simp only [Prod.mk.injEq] at hzz
  obtain ⟨hz, hs, hb⟩ := hzz
  have hr := run_make (P := P) w t e i _ ht hi hz .i64 .i64 n n (by omega) (Int.le_refl _) (by rw [hb]; omega) (by omega)
  simp only [Int.toNat_natCast, hs] at hr
  exact hr

/-- The i-th of two cells. -/
def p2 (x y : Value) (i : Nat) : Value := if i = 0 then x else y

theorem rowp2 (w : World) (t : TypeId) (x y : Value) : (w.alloc (.cells #[x, y] t)).rowIs w.heap.size t 2 (p2 x y) :=
  ⟨_, Deep.blk_alloc_new _ _, rfl, fun i hi => by
    have : i = 0 ∨ i = 1 := by omega
    rcases this with rfl | rfl <;> rfl⟩

theorem cells2 {w : World} {g : Nat} {ty : TypeId} {x y : Value} (h : w.rowIs g ty 2 (p2 x y)) : w.cell? ⟨g, 0, none⟩ = some x ∧ w.cell? ⟨g, 1, none⟩ = some y ∧ g < w.heap.size :=
  ⟨h.cell (by omega), h.cell (by omega), h.lt⟩

set_option maxHeartbeats 800000 in
theorem toAttr_any (s : ByteArray) (a : Option Addr) (c : Nat) (l : List Int) (w : World) (ha : BAt w a l) (hl : (l.length : Int) ≤ 1048576) :
    Calls Try.prog 115 #[.agg #[.string s, .slice a l.length c]] w fun e w' => ∃ b, e = .returned (.agg #[.string s, .slice (some ⟨b, 0, none⟩) l.length l.length]) ∧ w.heap.size ≤ b ∧ w'.rowIs b 5 l.length (bv l) ∧ Below w.heap.size w w' := by
  have B0 := ((Below.refl w.heap.size w).alloc (Nat.le_refl _) (.cells #[.string s, .slice a l.length c] 158)).alloc (by simp) (.cells #[.string ⟨#[]⟩, .slice none 0 0] 159)
  have B1 := B0.alloc (by simp; omega) (.cells #[.string s, .slice none 0 0] 159)
  have RR := (rowp2 (w.alloc (.cells #[.string s, .slice a l.length c] 158)) 159 (.string ⟨#[]⟩) (.slice none 0 0)).alloc (.cells #[.string s, .slice none 0 0] 159)
  have RO := rowp2 ((w.alloc (.cells #[.string s, .slice a l.length c] 158)).alloc (.cells #[.string ⟨#[]⟩, .slice none 0 0] 159)) 159 (.string s) (.slice none 0 0)
  have RP := ((rowp2 w 158 (.string s) (.slice a l.length c)).alloc (.cells #[.string ⟨#[]⟩, .slice none 0 0] 159)).alloc (.cells #[.string s, .slice none 0 0] 159)
  have KB := Hid.mk' (toByteS_any a c l _ (ha.below B1) hl)
  have HB := Hid.mk' B1
  have z1 : (w.alloc (.cells #[.string s, .slice a l.length c] 158)).heap.size = w.heap.size + 1 := by simp
  have z2 : ((w.alloc (.cells #[.string s, .slice a l.length c] 158)).alloc (.cells #[.string ⟨#[]⟩, .slice none 0 0] 159)).heap.size = w.heap.size + 1 + 1 := by simp
  have z3 : (((w.alloc (.cells #[.string s, .slice a l.length c] 158)).alloc (.cells #[.string ⟨#[]⟩, .slice none 0 0] 159)).alloc (.cells #[.string s, .slice none 0 0] 159)).heap.size = w.heap.size + 1 + 1 + 1 := by simp
  rw [z1] at RR
  rw [z2] at RO
  have HR := Hid.mk' RR
  have HO := Hid.mk' RO
  have Z3 := Hid.mk' z3
  have HP := Hid.mk' RP
  clear ha B0 B1 RR RO RP z1 z2 z3
  generalize hW : ((w.alloc (.cells #[.string s, .slice a l.length c] 158)).alloc (.cells #[.string ⟨#[]⟩, .slice none 0 0] 159)).alloc (.cells #[.string s, .slice none 0 0] 159) = W at *
  obtain ⟨p0, p1, p3⟩ := cells2 HP.out
  go_enter Try.func115, Try.ntmps115
  go_wp2_with fail
  clear hW
  refine KB.out.mono ?_
  rintro e w1 ⟨b, rfl, hb, hrow, hbl⟩
  have Ho := rowB HO.out hbl
  have Hr := rowB HR.out hbl
  obtain ⟨o0, o1, o2⟩ := cells2 Ho
  obtain ⟨r0, r1, r2⟩ := cells2 Hr
  have fo := Ho.frozen 1
  have fr0 := Hr.frozen 0
  have fr1 := Hr.frozen 1
  have KK : Hid (KeptIn (w.heap.size + 1) (w.heap.size + 1 + 1 + 1) w1 (((w1.setCell ⟨w.heap.size + 1 + 1, 1, none⟩ (.slice (some ⟨b, 0, none⟩) l.length l.length)).setCell ⟨w.heap.size + 1, 0, none⟩ (.string s)).setCell ⟨w.heap.size + 1, 1, none⟩ (.slice (some ⟨b, 0, none⟩) l.length l.length))) :=
    (((KeptIn.refl _ _ w1).setCell (p := ⟨w.heap.size + 1 + 1, 1, none⟩) (by simp) (by simp) _).setCell (p := ⟨w.heap.size + 1, 0, none⟩) (by simp) (by simp) _).setCell (p := ⟨w.heap.size + 1, 1, none⟩) (by simp) (by simp) _
  have HW := Hid.mk' hrow
  have HL := Hid.mk' hbl
  have hb' : w.heap.size + 1 + 1 + 1 ≤ b := by have := Z3.out; omega
  have hwl : w.heap.size + 1 ≤ w1.heap.size := by have := Z3.out; have := hbl.size; omega
  clear hrow hbl Ho Hr KB HO HR hb
  go_wp2
  refine bodyPost_ret (v := .agg #[.string s, .slice (some ⟨b, 0, none⟩) l.length l.length]) (by simp [results, Try.results115, go_sem, *]) rfl ?_
  exact ⟨b, rfl, by omega, rowK HW.out KK.out (.inr hb'), (HB.out.trans (HL.out.mono HB.out.size)).trans (KK.out.below (by omega) (by omega))⟩

/-- Attributes being copied into a row of one's own: k of them are there. -/
structure AR (w : World) (l : List AT) (k : Nat) (wr : World) : Prop where
  bl : Below w.heap.size w wr
  row : ∃ f, wr.rowIs w.heap.size 159 (l.length * 2) f ∧ ∀ j, j < k → f (j * 2) = .string (atK l j).nm ∧ ∃ b, f (j * 2 + 1) = .slice (some ⟨b, 0, none⟩) (atK l j).vl.length (atK l j).vl.length ∧ w.heap.size < b ∧ wr.rowIs b 5 (atK l j).vl.length (bv (atK l j).vl)

theorem AR.start (w : World) (l : List AT) : AR w l 0 (w.alloc (.cells (madeCells #[.string ⟨#[]⟩, .slice none 0 0] (l.length * 2)) 159)) := by
  refine ⟨(Below.refl _ _).alloc (Nat.le_refl _) _, fun i => p2 (.string ⟨#[]⟩) (.slice none 0 0) (i % 2), ?_, fun j hj => absurd hj (Nat.not_lt_zero _)⟩
  refine ⟨_, Deep.blk_alloc_new _ _, size_madeCells _ _, fun i hi => ?_⟩
  have h : i % 2 = 0 ∨ i % 2 = 1 := by omega
  rcases h with h | h <;> simp [madeCells, hi, h, p2]

theorem AR.below {w wr w1 : World} {l : List AT} {k : Nat} (h : AR w l k wr) (hb : Below wr.heap.size wr w1) : AR w l k w1 := by
  obtain ⟨f, hf, hj⟩ := h.row
  refine ⟨h.bl.trans (hb.mono h.bl.size), f, rowB hf hb, fun j hk => ?_⟩
  obtain ⟨h1, b, h2, h3, h4⟩ := hj j hk
  exact ⟨h1, b, h2, h3, rowB h4 hb⟩

theorem AR.step {w wr : World} {l : List AT} {k b : Nat} (h : AR w l k wr) (hb : w.heap.size < b) (hrow : wr.rowIs b 5 (atK l k).vl.length (bv (atK l k).vl)) :
    AR w l (k + 1) ((wr.setCell ⟨w.heap.size, k * 2, none⟩ (.string (atK l k).nm)).setCell ⟨w.heap.size, k * 2 + 1, none⟩ (.slice (some ⟨b, 0, none⟩) (atK l k).vl.length (atK l k).vl.length)) := by
  obtain ⟨f, hf, hj⟩ := h.row
  have K : KeptIn w.heap.size (w.heap.size + 1) wr ((wr.setCell ⟨w.heap.size, k * 2, none⟩ (.string (atK l k).nm)).setCell ⟨w.heap.size, k * 2 + 1, none⟩ (.slice (some ⟨b, 0, none⟩) (atK l k).vl.length (atK l k).vl.length)) :=
    ((KeptIn.refl _ _ wr).setCell (p := ⟨w.heap.size, k * 2, none⟩) (Nat.le_refl _) (Nat.lt_succ_self _) _).setCell (p := ⟨w.heap.size, k * 2 + 1, none⟩) (Nat.le_refl _) (Nat.lt_succ_self _) _
  refine ⟨h.bl.trans (K.below (Nat.le_refl _) h.bl.size), _, (hf.set (k * 2) _).set (k * 2 + 1) _, fun j hk => ?_⟩
  by_cases e : j = k
  · subst e
    refine ⟨?_, b, ?_, hb, rowK hrow K (.inr hb)⟩
    · rw [if_neg (by omega), if_pos rfl]
    · rw [if_pos rfl]
  · obtain ⟨h1, b', h2, h3, h4⟩ := hj j (by omega)
    refine ⟨?_, b', ?_, h3, rowK h4 K (.inr h3)⟩
    · rw [if_neg (by omega), if_neg (by omega)]; exact h1
    · rw [if_neg (by omega), if_neg (by omega)]; exact h2

theorem AR.at {w wr : World} {l : List AT} (h : AR w l l.length wr) : AAt wr (some ⟨w.heap.size, 0, none⟩) l := by
  obtain ⟨f, hf, hj⟩ := h.row
  refine .inr ⟨_, _, rfl, hf.lt, fun k hk => ?_⟩
  obtain ⟨h1, b, h2, h3, h4⟩ := hj k hk
  have c1 : wr.cell? ⟨w.heap.size, k * 2, none⟩ = some (f (k * 2)) := hf.cell (by omega)
  have c2 : wr.cell? ⟨w.heap.size, k * 2 + 1, none⟩ = some (f (k * 2 + 1)) := hf.cell (by omega)
  refine ⟨by rw [Nat.zero_add, c1, h1], _, _, by rw [Nat.zero_add, c2, h2], ?_⟩
  exact .inr ⟨b, 0, rfl, h4.lt, fun i hi => by rw [Nat.zero_add]; exact h4.cell hi⟩

set_option maxHeartbeats 800000 in
theorem toAttrS_any (a : Option Addr) (c : Nat) (l : List AT) (w : World) (ha : AAt w a l) (hl : (l.length : Int) + asz l ≤ 1048576) :
    Calls Try.prog 109 #[.slice a l.length c] w fun e w' => e = .returned (.slice (some ⟨w.heap.size, 0, none⟩) l.length l.length) ∧ AR w l l.length w' := by
  have hmk := make_attrs (P := Try.prog) 138 159 Try.underlying138 Try.info159 l.length (by omega)
  have HA := Hid.mk' ha
  clear ha
  go_enter Try.func109, Try.ntmps109
  go_wp2
  go_loopw [4] (fun i wr => ∃ k : Nat, k ≤ l.length ∧ i = .int .i64 k ∧ AR w l k wr) (fun i _ => l.length - (intOf i).toNat)
  case atStart => exact ⟨0, Nat.zero_le _, rfl, AR.start w l⟩
  case round =>
    obtain ⟨k, hk, rfl, hr⟩ := hrel
    have HR := Hid.mk' hr
    clear hr hmk
    by_cases hlt : k < l.length
    · have ci : (k : Int) < (l.length : Int) := by omega
      rcases HA.out with ha | ⟨b, o, rfl, hbs, hc⟩
      · exact absurd hlt (by rw [ha]; exact Nat.not_lt_zero _)
      obtain ⟨q1, p, d, q2, q3⟩ := hc k hlt
      have h1 : wr.cell? ⟨b, o + k * 2, none⟩ = some (.string (atK l k).nm) := (HR.out.bl.cell hbs).trans q1
      have h2 : wr.cell? ⟨b, o + k * 2 + 1, none⟩ = some (.slice p (atK l k).vl.length d) := (HR.out.bl.cell hbs).trans q2
      have h3 : BAt wr p (atK l k).vl := by
        rcases q3 with q | ⟨b', o', e, hb', hc'⟩
        · exact .inl q
        · exact .inr ⟨b', o', e, Nat.lt_of_lt_of_le hb' HR.out.bl.size, fun i hi => (HR.out.bl.cell hb').trans (hc' i hi)⟩
      have st := asz_take l k hlt
      have sl := asz_le l (k + 1)
      have KA := Hid.mk' (toAttr_any (atK l k).nm p d (atK l k).vl wr h3 (by omega))
      clear h3 q1 q2 q3 hc st sl
      go_wp2_with fail
      refine KA.out.mono ?_
      rintro e w1 ⟨g, rfl, hg, hrow, hbl⟩
      have hr1 := HR.out.below hbl
      obtain ⟨f, hf, _⟩ := hr1.row
      have f0 := hf.frozen (k * 2)
      have f1 := hf.frozen (k * 2 + 1)
      obtain ⟨v0, g0⟩ : ∃ v, w1.cell? ⟨w.heap.size, k * 2, none⟩ = some v := ⟨_, hf.cell (by omega)⟩
      obtain ⟨v1, g1⟩ : ∃ v, w1.cell? ⟨w.heap.size, k * 2 + 1, none⟩ = some v := ⟨_, hf.cell (by omega)⟩
      have hgl : w.heap.size < g := by obtain ⟨f', hf', _⟩ := HR.out.row; have := hf'.lt; omega
      have R1 := Hid.mk' (hr1.step hgl hrow)
      clear hr1 hf hrow hbl KA h1 h2 hg
      go_wp2
      go_roundw
      case rel => exact ⟨k + 1, by omega, by go_num, R1.out⟩
      case measure => simp [intOf]; omega
    · have ci : ¬ (k : Int) < (l.length : Int) := by omega
      have e : k = l.length := by omega
      subst e
      go_wp2
      go_ret
      exact ⟨rfl, HR.out⟩

end Go.Proofs.Ytbdjppiagjhfmaa
