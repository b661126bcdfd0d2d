/- Attributes and tokens that lie in memory; their sizes. -/
import Derived.Test.YtcjnfodkppcpoaaDoorXWb
import Derived.Test.YtcjnfodkppcpoaaDoorXOwn
import Derived.Test.YtcjnfodkppcpoaaDoorChecked
import Derived.ProofKit
import Derived.OpenShut
import Derived.Test.YtcjnfodkppcpoaaDoorXLem
import Derived.BigGuard
namespace Go.Proofs.YtcjnfodkppcpoaaDoor
open Go.RowKit
set_option linter.unusedVariables false

/-- An attribute: its name, its value. -/
structure AT where
  nm : ByteArray
  vl : List Int

/-- The k-th of attributes. -/
def atK (l : List AT) (k : Nat) : AT := l.getD k ⟨⟨#[]⟩, []⟩

/-- Attributes lie at an address. -/
def AAt (w : World) (a : Option Addr) (l : List AT) : Prop :=
  l = [] ∨ ∃ b o, a = some ⟨b, o, none⟩ ∧ b < w.heap.size ∧ ∀ k, k < l.length → w.cell? ⟨b, o + k * 2, none⟩ = some (.string (atK l k).nm) ∧ ∃ p c, w.cell? ⟨b, o + k * 2 + 1, none⟩ = some (.slice p (atK l k).vl.length c) ∧ BAt w p (atK l k).vl

theorem AAt.below {w w' : World} {a : Option Addr} {l : List AT} (h : AAt w a l) (hb : Below w.heap.size w w') : AAt w' a l := by
  rcases h with h | ⟨b, o, e, hs, hc⟩
  · exact .inl h
  · refine .inr ⟨b, o, e, Nat.lt_of_lt_of_le hs hb.size, fun k hk => ?_⟩
    obtain ⟨h1, p, c, h2, h3⟩ := hc k hk
    exact ⟨(hb.cell hs).trans h1, p, c, (hb.cell hs).trans h2, h3.below hb⟩

/-- The bytes of attributes, and their number. -/
def asz : List AT → Nat
  | [] => 0
  | x :: r => x.nm.size + x.vl.length + asz r

theorem asz_take (l : List AT) : ∀ k, k < l.length → asz (l.take (k + 1)) = asz (l.take k) + ((atK l k).nm.size + (atK l k).vl.length) := by
  induction l with
  | nil => intro k h; exact absurd h (Nat.not_lt_zero _)
  | cons x r ih =>
    intro k hk
    cases k with
    | zero => simp [asz, atK]
    | succ k =>
      have := ih k (by simpa using hk)
      simp only [List.take_succ_cons, asz]
      rw [this]
      have e : atK (x :: r) (k + 1) = atK r k := by simp [atK]
      rw [e]; omega

theorem asz_le (l : List AT) (k : Nat) : asz (l.take k) ≤ asz l := by
  induction l generalizing k with
  | nil => simp [asz]
  | cons x r ih =>
    cases k with
    | zero => simp [asz]
    | succ k => simp only [List.take_succ_cons, asz]; have := ih k; omega



theorem szAttr_any (s : ByteArray) (a : Option Addr) (n c : Nat) (l : Int) (w : World) (h0 : 0 ≤ l) (h1 : l ≤ 1048576) (hs : (s.size : Int) ≤ 9223372036854775807) (hn : (n : Int) ≤ 9223372036854775807) :
    Calls Tryd.prog 60 #[.agg #[.string s, .slice a n c], .int .i64 l] w fun e w' => e = .returned (.int .i64 (if l < (s.size : Int) + n then -1 else l - s.size - n)) ∧ Below w.heap.size w w' := by
  by_cases g1 : l < (s.size : Int)
  · rw [if_pos (by omega)]
    go_enter Tryd.func60, Tryd.ntmps60
    go_wp2
    go_ret
    exact ⟨rfl, (Below.refl _ _).alloc (Nat.le_refl _) _⟩
  by_cases g2 : l - (s.size : Int) < n
  · rw [if_pos (by omega)]
    go_enter Tryd.func60, Tryd.ntmps60
    go_wp2_with (go_at_call 42; refine (szByteS_any _ _ _ _ _ (by omega) (by omega) (by omega)).mono ?_; rintro e w' ⟨rfl, rfl⟩)
    go_ret
    exact ⟨rfl, (Below.refl _ _).alloc (Nat.le_refl _) _⟩
  · rw [if_neg (by omega)]
    go_enter Tryd.func60, Tryd.ntmps60
    go_wp2_with (go_at_call 42; refine (szByteS_any _ _ _ _ _ (by omega) (by omega) (by omega)).mono ?_; rintro e w' ⟨rfl, rfl⟩)
    go_ret
    exact ⟨rfl, (Below.refl _ _).alloc (Nat.le_refl _) _⟩

/-- The widest that a value or a name can be. -/
def Wide (l : List AT) : Prop := ∀ k, k < l.length → ((atK l k).nm.size : Int) ≤ 9223372036854775807 ∧ ((atK l k).vl.length : Int) ≤ 9223372036854775807

set_option maxHeartbeats 800000 in
theorem szAttrS_any (a : Option Addr) (c : Nat) (l : List AT) (z : Int) (w : World) (ha : AAt w a l) (hw : Wide l) (h0 : 0 ≤ z) (h1 : z ≤ 1048576) (hl : (l.length : Int) ≤ 9223372036854775807) :
    Calls Tryd.prog 41 #[.slice a l.length c, .int .i64 z] w fun e w' => e = .returned (.int .i64 (if z < (l.length : Int) + asz l then -1 else z - l.length - asz l)) ∧ Below w.heap.size w w' := by
  by_cases g1 : z < (l.length : Int)
  · rw [if_pos (by omega)]
    go_enter Tryd.func41, Tryd.ntmps41
    go_wp2
    go_ret
    exact ⟨rfl, Below.refl _ _⟩
  have HA := Hid.mk' ha
  have HW := Hid.mk' hw
  clear ha hw
  go_enter Tryd.func41, Tryd.ntmps41
  go_wp2
  go_loopw [1, 5] (fun x i wr => ∃ k : Nat, k ≤ l.length ∧ i = .int .i64 k ∧ x = .int .i64 (z - (l.length : Int) - (asz (l.take k) : Int)) ∧ (asz (l.take k) : Int) ≤ z - l.length ∧ Below w.heap.size w wr) (fun _ i _ => l.length - (intOf i).toNat)
  case atStart => exact ⟨0, Nat.zero_le _, rfl, by simp [asz], by simp [asz]; omega, Below.refl _ _⟩
  case round =>
    obtain ⟨k, hk, rfl, rfl, hz, hbl⟩ := hrel
    have HB := Hid.mk' hbl
    clear hbl
    by_cases hlt : k < l.length
    · have ci : (k : Int) < (l.length : Int) := by omega
      rcases HA.out.below HB.out with ha | ⟨b, o, rfl, hbs, hc⟩
      · exact absurd hlt (by rw [ha]; exact Nat.not_lt_zero _)
      obtain ⟨q1, p, d, q2, _⟩ := hc k hlt
      obtain ⟨w1, w2⟩ := HW.out k hlt
      have st := asz_take l k hlt
      have KA := Hid.mk' (szAttr_any (atK l k).nm p (atK l k).vl.length d (z - (l.length : Int) - (asz (l.take k) : Int)) wr (by omega) (by omega) w1 w2)
      generalize hn1 : (atK l k).nm = nm at *
      generalize hn2 : (atK l k).vl.length = n at *
      generalize hy : z - (l.length : Int) - (asz (l.take k) : Int) = y at *
      clear hc
      by_cases g2 : y < (nm.size : Int) + n
      · rw [if_pos g2] at KA
        have gz : z < (l.length : Int) + asz l := by have := asz_le l (k + 1); omega
        go_wp2_with fail
        refine KA.out.mono ?_
        rintro e w1 ⟨rfl, hb⟩
        have HB := Hid.mk' (HB.out.trans (hb.mono HB.out.size))
        clear hb KA
        go_wp2
        go_ret
        exact ⟨by first | rfl | (rw [if_pos gz]; rfl), HB.out⟩
      · rw [if_neg g2] at KA
        have gy : ¬ (y - (nm.size : Int) - n < 0) := by omega
        go_wp2_with fail
        refine KA.out.mono ?_
        rintro e w1 ⟨rfl, hb⟩
        have HB := Hid.mk' (HB.out.trans (hb.mono HB.out.size))
        clear hb KA
        go_wp2
        go_roundw
        case rel => exact ⟨k + 1, by omega, by go_num, by congr 1; omega, by omega, HB.out⟩
        case measure => simp [intOf]; omega
    · have ci : ¬ (k : Int) < (l.length : Int) := by omega
      have e : k = l.length := by omega
      subst e
      rw [List.take_length] at hz
      go_wp2
      go_ret
      exact ⟨by first | rfl | (simp; done) | (rw [if_neg (by omega)]; simp), HB.out⟩

/-- A token. -/
structure TK where
  kd : Int
  by_ : Int
  nm : ByteArray
  at_ : List AT
  sh : Bool

/-- A token's value. -/
def tkV (t : TK) (a : Option Addr) (c : Nat) : Value := .agg #[.int .i64 t.kd, .int .i64 t.by_, .string t.nm, .slice a t.at_.length c, .bool t.sh]

end Go.Proofs.YtcjnfodkppcpoaaDoor

/- Walks: attributes and tokens copied. -/
namespace Go.Proofs.YtcjnfodkppcpoaaDoor
open Go.RowKit
set_option linter.unusedVariables false

theorem Tryd.info94 : (Tryd.prog.info? 94).map (fun i => (i.zero, i.size, i.bytes)) = some (some (.agg #[.string ⟨#[]⟩, .slice none 0 0]), 2, 40) := by kernel_rfl

theorem make_attrs {P : Program} (t e : TypeId) (ht : P.underlying t = some (.slice e)) (hinfo : (P.info? e).map (fun i => (i.zero, i.size, i.bytes)) = some (some (.agg #[.string ⟨#[]⟩, .slice none 0 0]), 2, 40))
    (n : Nat) (hn : (n : Int) ≤ 1048576) (w : World) :
    (Instr.makeSlice t (.int .i64 (n : Int)) (.int .i64 (n : Int))).run P w = .ok (.slice (some ⟨w.heap.size, 0, none⟩) n n) (w.alloc (.cells (madeCells #[.string ⟨#[]⟩, .slice none 0 0] (n * 2)) e)) := by
  obtain ⟨i, hi, hzz⟩ := Option.map_eq_some_iff.1 hinfo
  simp only [Prod.mk.injEq] at hzz
  obtain ⟨hz, hs, hb⟩ := hzz
  have hr := run_make (P := P) w t e i _ ht hi hz .i64 .i64 n n (by omega) (Int.le_refl _) (by rw [hb]; omega) (by omega)
  simp only [Int.toNat_natCast, hs] at hr
  exact hr

/-- The i-th of two cells. -/
def p2 (x y : Value) (i : Nat) : Value := if i = 0 then x else y

theorem rowp2 (w : World) (t : TypeId) (x y : Value) : (w.alloc (.cells #[x, y] t)).rowIs w.heap.size t 2 (p2 x y) :=
  ⟨_, Deep.blk_alloc_new _ _, rfl, fun i hi => by
    have : i = 0 ∨ i = 1 := by omega
    rcases this with rfl | rfl <;> rfl⟩

theorem cells2 {w : World} {g : Nat} {ty : TypeId} {x y : Value} (h : w.rowIs g ty 2 (p2 x y)) : w.cell? ⟨g, 0, none⟩ = some x ∧ w.cell? ⟨g, 1, none⟩ = some y ∧ g < w.heap.size :=
  ⟨h.cell (by omega), h.cell (by omega), h.lt⟩

set_option maxHeartbeats 800000 in
theorem toAttr_any (s : ByteArray) (a : Option Addr) (c : Nat) (l : List Int) (w : World) (ha : BAt w a l) (hl : (l.length : Int) ≤ 1048576) :
    Calls Tryd.prog 61 #[.agg #[.string s, .slice a l.length c]] w fun e w' => ∃ b, e = .returned (.agg #[.string s, .slice (some ⟨b, 0, none⟩) l.length l.length]) ∧ w.heap.size ≤ b ∧ w'.rowIs b 5 l.length (bv l) ∧ Below w.heap.size w w' := by
  have B0 := ((Below.refl w.heap.size w).alloc (Nat.le_refl _) (.cells #[.string s, .slice a l.length c] 100)).alloc (by simp) (.cells #[.string ⟨#[]⟩, .slice none 0 0] 94)
  have B1 := B0.alloc (by simp; omega) (.cells #[.string s, .slice none 0 0] 94)
  have RR := (rowp2 (w.alloc (.cells #[.string s, .slice a l.length c] 100)) 94 (.string ⟨#[]⟩) (.slice none 0 0)).alloc (.cells #[.string s, .slice none 0 0] 94)
  have RO := rowp2 ((w.alloc (.cells #[.string s, .slice a l.length c] 100)).alloc (.cells #[.string ⟨#[]⟩, .slice none 0 0] 94)) 94 (.string s) (.slice none 0 0)
  have RP := ((rowp2 w 100 (.string s) (.slice a l.length c)).alloc (.cells #[.string ⟨#[]⟩, .slice none 0 0] 94)).alloc (.cells #[.string s, .slice none 0 0] 94)
  have KB := Hid.mk' (toByteS_any a c l _ (ha.below B1) hl)
  have HB := Hid.mk' B1
  have z1 : (w.alloc (.cells #[.string s, .slice a l.length c] 100)).heap.size = w.heap.size + 1 := by simp
  have z2 : ((w.alloc (.cells #[.string s, .slice a l.length c] 100)).alloc (.cells #[.string ⟨#[]⟩, .slice none 0 0] 94)).heap.size = w.heap.size + 1 + 1 := by simp
  have z3 : (((w.alloc (.cells #[.string s, .slice a l.length c] 100)).alloc (.cells #[.string ⟨#[]⟩, .slice none 0 0] 94)).alloc (.cells #[.string s, .slice none 0 0] 94)).heap.size = w.heap.size + 1 + 1 + 1 := by simp
  rw [z1] at RR
  rw [z2] at RO
  have HR := Hid.mk' RR
  have HO := Hid.mk' RO
  have Z3 := Hid.mk' z3
  have HP := Hid.mk' RP
  clear ha B0 B1 RR RO RP z1 z2 z3
  generalize hW : ((w.alloc (.cells #[.string s, .slice a l.length c] 100)).alloc (.cells #[.string ⟨#[]⟩, .slice none 0 0] 94)).alloc (.cells #[.string s, .slice none 0 0] 94) = W at *
  obtain ⟨p0, p1, p3⟩ := cells2 HP.out
  go_enter Tryd.func61, Tryd.ntmps61
  go_wp2_with fail
  clear hW
  refine KB.out.mono ?_
  rintro e w1 ⟨b, rfl, hb, hrow, hbl⟩
  have Ho := rowB HO.out hbl
  have Hr := rowB HR.out hbl
  obtain ⟨o0, o1, o2⟩ := cells2 Ho
  obtain ⟨r0, r1, r2⟩ := cells2 Hr
  have fo := Ho.frozen 1
  have fr0 := Hr.frozen 0
  have fr1 := Hr.frozen 1
  have KK : Hid (KeptIn (w.heap.size + 1) (w.heap.size + 1 + 1 + 1) w1 (((w1.setCell ⟨w.heap.size + 1 + 1, 1, none⟩ (.slice (some ⟨b, 0, none⟩) l.length l.length)).setCell ⟨w.heap.size + 1, 0, none⟩ (.string s)).setCell ⟨w.heap.size + 1, 1, none⟩ (.slice (some ⟨b, 0, none⟩) l.length l.length))) :=
    (((KeptIn.refl _ _ w1).setCell (p := ⟨w.heap.size + 1 + 1, 1, none⟩) (by simp) (by simp) _).setCell (p := ⟨w.heap.size + 1, 0, none⟩) (by simp) (by simp) _).setCell (p := ⟨w.heap.size + 1, 1, none⟩) (by simp) (by simp) _
  have HW := Hid.mk' hrow
  have HL := Hid.mk' hbl
  have hb' : w.heap.size + 1 + 1 + 1 ≤ b := by have := Z3.out; omega
  have hwl : w.heap.size + 1 ≤ w1.heap.size := by have := Z3.out; have := hbl.size; omega
  clear hrow hbl Ho Hr KB HO HR hb
  go_wp2
  refine bodyPost_ret (v := .agg #[.string s, .slice (some ⟨b, 0, none⟩) l.length l.length]) (by simp [results, Tryd.results61, go_sem, *]) rfl ?_
  exact ⟨b, rfl, by omega, rowK HW.out KK.out (.inr hb'), (HB.out.trans (HL.out.mono HB.out.size)).trans (KK.out.below (by omega) (by omega))⟩

/-- Attributes being copied into a row of one's own: k of them are there. -/
structure AR (w : World) (l : List AT) (k : Nat) (wr : World) : Prop where
  bl : Below w.heap.size w wr
  row : ∃ f, wr.rowIs w.heap.size 94 (l.length * 2) f ∧ ∀ j, j < k → f (j * 2) = .string (atK l j).nm ∧ ∃ b, f (j * 2 + 1) = .slice (some ⟨b, 0, none⟩) (atK l j).vl.length (atK l j).vl.length ∧ w.heap.size < b ∧ wr.rowIs b 5 (atK l j).vl.length (bv (atK l j).vl)

theorem AR.start (w : World) (l : List AT) : AR w l 0 (w.alloc (.cells (madeCells #[.string ⟨#[]⟩, .slice none 0 0] (l.length * 2)) 94)) := by
  refine ⟨(Below.refl _ _).alloc (Nat.le_refl _) _, fun i => p2 (.string ⟨#[]⟩) (.slice none 0 0) (i % 2), ?_, fun j hj => absurd hj (Nat.not_lt_zero _)⟩
  refine ⟨_, Deep.blk_alloc_new _ _, size_madeCells _ _, fun i hi => ?_⟩
  have h : i % 2 = 0 ∨ i % 2 = 1 := by omega
  rcases h with h | h <;> simp [madeCells, hi, h, p2]

theorem AR.below {w wr w1 : World} {l : List AT} {k : Nat} (h : AR w l k wr) (hb : Below wr.heap.size wr w1) : AR w l k w1 := by
  obtain ⟨f, hf, hj⟩ := h.row
  refine ⟨h.bl.trans (hb.mono h.bl.size), f, rowB hf hb, fun j hk => ?_⟩
  obtain ⟨h1, b, h2, h3, h4⟩ := hj j hk
  exact ⟨h1, b, h2, h3, rowB h4 hb⟩

theorem AR.step {w wr : World} {l : List AT} {k b : Nat} (h : AR w l k wr) (hb : w.heap.size < b) (hrow : wr.rowIs b 5 (atK l k).vl.length (bv (atK l k).vl)) :
    AR w l (k + 1) ((wr.setCell ⟨w.heap.size, k * 2, none⟩ (.string (atK l k).nm)).setCell ⟨w.heap.size, k * 2 + 1, none⟩ (.slice (some ⟨b, 0, none⟩) (atK l k).vl.length (atK l k).vl.length)) := by
  obtain ⟨f, hf, hj⟩ := h.row
  have K : KeptIn w.heap.size (w.heap.size + 1) wr ((wr.setCell ⟨w.heap.size, k * 2, none⟩ (.string (atK l k).nm)).setCell ⟨w.heap.size, k * 2 + 1, none⟩ (.slice (some ⟨b, 0, none⟩) (atK l k).vl.length (atK l k).vl.length)) :=
    ((KeptIn.refl _ _ wr).setCell (p := ⟨w.heap.size, k * 2, none⟩) (Nat.le_refl _) (Nat.lt_succ_self _) _).setCell (p := ⟨w.heap.size, k * 2 + 1, none⟩) (Nat.le_refl _) (Nat.lt_succ_self _) _
  refine ⟨h.bl.trans (K.below (Nat.le_refl _) h.bl.size), _, (hf.set (k * 2) _).set (k * 2 + 1) _, fun j hk => ?_⟩
  by_cases e : j = k
  · subst e
    refine ⟨?_, b, ?_, hb, rowK hrow K (.inr hb)⟩
    · rw [if_neg (by omega), if_pos rfl]
    · rw [if_pos rfl]
  · obtain ⟨h1, b', h2, h3, h4⟩ := hj j (by omega)
    refine ⟨?_, b', ?_, h3, rowK h4 K (.inr h3)⟩
    · rw [if_neg (by omega), if_neg (by omega)]; exact h1
    · rw [if_neg (by omega), if_neg (by omega)]; exact h2

theorem AR.at {w wr : World} {l : List AT} (h : AR w l l.length wr) : AAt wr (some ⟨w.heap.size, 0, none⟩) l := by
  obtain ⟨f, hf, hj⟩ := h.row
  refine .inr ⟨_, _, rfl, hf.lt, fun k hk => ?_⟩
  obtain ⟨h1, b, h2, h3, h4⟩ := hj k hk
  have c1 : wr.cell? ⟨w.heap.size, k * 2, none⟩ = some (f (k * 2)) := hf.cell (by omega)
  have c2 : wr.cell? ⟨w.heap.size, k * 2 + 1, none⟩ = some (f (k * 2 + 1)) := hf.cell (by omega)
  refine ⟨by rw [Nat.zero_add, c1, h1], _, _, by rw [Nat.zero_add, c2, h2], ?_⟩
  exact .inr ⟨b, 0, rfl, h4.lt, fun i hi => by rw [Nat.zero_add]; exact h4.cell hi⟩

set_option maxHeartbeats 800000 in
theorem toAttrS_any (a : Option Addr) (c : Nat) (l : List AT) (w : World) (ha : AAt w a l) (hl : (l.length : Int) + asz l ≤ 1048576) :
    Calls Tryd.prog 44 #[.slice a l.length c] w fun e w' => e = .returned (.slice (some ⟨w.heap.size, 0, none⟩) l.length l.length) ∧ AR w l l.length w' := by
  have hmk := make_attrs (P := Tryd.prog) 47 94 Tryd.underlying47 Tryd.info94 l.length (by omega)
  have HA := Hid.mk' ha
  clear ha
  go_enter Tryd.func44, Tryd.ntmps44
  go_wp2
  go_loopw [4] (fun i wr => ∃ k : Nat, k ≤ l.length ∧ i = .int .i64 k ∧ AR w l k wr) (fun i _ => l.length - (intOf i).toNat)
  case atStart => exact ⟨0, Nat.zero_le _, rfl, AR.start w l⟩
  case round =>
    obtain ⟨k, hk, rfl, hr⟩ := hrel
    have HR := Hid.mk' hr
    clear hr hmk
    by_cases hlt : k < l.length
    · have ci : (k : Int) < (l.length : Int) := by omega
      rcases HA.out with ha | ⟨b, o, rfl, hbs, hc⟩
      · exact absurd hlt (by rw [ha]; exact Nat.not_lt_zero _)
      obtain ⟨q1, p, d, q2, q3⟩ := hc k hlt
      have h1 : wr.cell? ⟨b, o + k * 2, none⟩ = some (.string (atK l k).nm) := (HR.out.bl.cell hbs).trans q1
      have h2 : wr.cell? ⟨b, o + k * 2 + 1, none⟩ = some (.slice p (atK l k).vl.length d) := (HR.out.bl.cell hbs).trans q2
      have h3 : BAt wr p (atK l k).vl := by
        rcases q3 with q | ⟨b', o', e, hb', hc'⟩
        · exact .inl q
        · exact .inr ⟨b', o', e, Nat.lt_of_lt_of_le hb' HR.out.bl.size, fun i hi => (HR.out.bl.cell hb').trans (hc' i hi)⟩
      have st := asz_take l k hlt
      have sl := asz_le l (k + 1)
      have KA := Hid.mk' (toAttr_any (atK l k).nm p d (atK l k).vl wr h3 (by omega))
      clear h3 q1 q2 q3 hc st sl
      go_wp2_with fail
      refine KA.out.mono ?_
      rintro e w1 ⟨g, rfl, hg, hrow, hbl⟩
      have hr1 := HR.out.below hbl
      obtain ⟨f, hf, _⟩ := hr1.row
      have f0 := hf.frozen (k * 2)
      have f1 := hf.frozen (k * 2 + 1)
      obtain ⟨v0, g0⟩ : ∃ v, w1.cell? ⟨w.heap.size, k * 2, none⟩ = some v := ⟨_, hf.cell (by omega)⟩
      obtain ⟨v1, g1⟩ : ∃ v, w1.cell? ⟨w.heap.size, k * 2 + 1, none⟩ = some v := ⟨_, hf.cell (by omega)⟩
      have hgl : w.heap.size < g := by obtain ⟨f', hf', _⟩ := HR.out.row; have := hf'.lt; omega
      have R1 := Hid.mk' (hr1.step hgl hrow)
      clear hr1 hf hrow hbl KA h1 h2 hg
      go_wp2
      go_roundw
      case rel => exact ⟨k + 1, by omega, by go_num, R1.out⟩
      case measure => simp [intOf]; omega
    · have ci : ¬ (k : Int) < (l.length : Int) := by omega
      have e : k = l.length := by omega
      subst e
      go_wp2
      go_ret
      exact ⟨rfl, HR.out⟩

end Go.Proofs.YtcjnfodkppcpoaaDoor

/- Walks: a token copied; attributes and tokens compared. -/
namespace Go.Proofs.YtcjnfodkppcpoaaDoor
open Go.RowKit
set_option linter.unusedVariables false

/-- The i-th of five cells. -/
def r5 (x y z u v : Value) (i : Nat) : Value := if i = 0 then x else if i = 1 then y else if i = 2 then z else if i = 3 then u else v

theorem row5 (w : World) (t : TypeId) (x y z u v : Value) : (w.alloc (.cells #[x, y, z, u, v] t)).rowIs w.heap.size t 5 (r5 x y z u v) :=
  ⟨_, Deep.blk_alloc_new _ _, rfl, fun i hi => by
    have : i = 0 ∨ i = 1 ∨ i = 2 ∨ i = 3 ∨ i = 4 := by omega
    rcases this with rfl | rfl | rfl | rfl | rfl <;> rfl⟩

theorem cells5 {w : World} {g : Nat} {ty : TypeId} {x y z u v : Value} (h : w.rowIs g ty 5 (r5 x y z u v)) : w.cell? ⟨g, 0, none⟩ = some x ∧ w.cell? ⟨g, 1, none⟩ = some y ∧ w.cell? ⟨g, 2, none⟩ = some z ∧ w.cell? ⟨g, 3, none⟩ = some u ∧ w.cell? ⟨g, 4, none⟩ = some v ∧ g < w.heap.size :=
  ⟨h.cell (by omega), h.cell (by omega), h.cell (by omega), h.cell (by omega), h.cell (by omega), h.lt⟩

/-- A row of attributes of one's own at g; the bytes of each one behind it. -/
def AO (g : Nat) (l : List AT) (w : World) : Prop := ∃ f, w.rowIs g 94 (l.length * 2) f ∧ ∀ j, j < l.length → f (j * 2) = .string (atK l j).nm ∧ ∃ b, f (j * 2 + 1) = .slice (some ⟨b, 0, none⟩) (atK l j).vl.length (atK l j).vl.length ∧ g < b ∧ w.rowIs b 5 (atK l j).vl.length (bv (atK l j).vl)

theorem AO.below {g : Nat} {l : List AT} {w w1 : World} (h : AO g l w) (hb : Below w.heap.size w w1) : AO g l w1 := by
  obtain ⟨f, hf, hj⟩ := h
  refine ⟨f, rowB hf hb, fun j hk => ?_⟩
  obtain ⟨h1, b, h2, h3, h4⟩ := hj j hk
  exact ⟨h1, b, h2, h3, rowB h4 hb⟩

theorem AO.of {w wr w1 : World} {l : List AT} {lo hi : Nat} (h : AR w l l.length wr) (hk : KeptIn lo hi wr w1) (hhi : hi ≤ w.heap.size) : AO w.heap.size l w1 := by
  obtain ⟨f, hf, hj⟩ := h.row
  refine ⟨f, rowK hf hk (.inr hhi), fun j hjk => ?_⟩
  obtain ⟨h1, b, h2, h3, h4⟩ := hj j hjk
  exact ⟨h1, b, h2, h3, rowK h4 hk (.inr (by omega))⟩

theorem AO.at {g : Nat} {l : List AT} {w : World} (h : AO g l w) : AAt w (some ⟨g, 0, none⟩) l := by
  obtain ⟨f, hf, hj⟩ := h
  refine .inr ⟨_, _, rfl, hf.lt, fun k hk => ?_⟩
  obtain ⟨h1, b, h2, h3, h4⟩ := hj k hk
  have c1 : w.cell? ⟨g, k * 2, none⟩ = some (f (k * 2)) := hf.cell (by omega)
  have c2 : w.cell? ⟨g, k * 2 + 1, none⟩ = some (f (k * 2 + 1)) := hf.cell (by omega)
  refine ⟨by rw [Nat.zero_add, c1, h1], _, _, by rw [Nat.zero_add, c2, h2], ?_⟩
  exact .inr ⟨b, 0, rfl, h4.lt, fun i hi => by rw [Nat.zero_add]; exact h4.cell hi⟩

set_option maxHeartbeats 400000 in
theorem eqAttr_any (s : ByteArray) (a b : Option Addr) (c d : Nat) (l : List Int) (w : World) (ha : BAt w a l) (hb : BAt w b l) (hl : (l.length : Int) ≤ 1048576) :
    Calls Tryd.prog 68 #[.agg #[.string s, .slice a l.length c], .agg #[.string s, .slice b l.length d]] w fun e w' => e = .returned (.bool true) ∧ Below w.heap.size w w' := by
  have B0 := ((Below.refl w.heap.size w).alloc (Nat.le_refl _) (.cells #[.string s, .slice a l.length c] 94)).alloc (by simp) (.cells #[.string s, .slice b l.length d] 94)
  have KB := Hid.mk' (eqByteS_any a b c d l _ (ha.below B0) (hb.below B0) hl)
  have HB := Hid.mk' B0
  clear ha hb B0
  go_enter Tryd.func68, Tryd.ntmps68
  go_wp2_with fail
  refine KB.out.mono ?_
  rintro e w1 ⟨rfl, hb⟩
  have HB := Hid.mk' (HB.out.trans (hb.mono HB.out.size))
  clear hb KB
  go_wp2
  go_ret
  exact ⟨rfl, HB.out⟩

end Go.Proofs.YtcjnfodkppcpoaaDoor

/- Walks: attributes and tokens that are the same are told so. -/
namespace Go.Proofs.YtcjnfodkppcpoaaDoor
open Go.RowKit
set_option linter.unusedVariables false

set_option maxHeartbeats 1600000 in
theorem eqAttrS_any (a b : Option Addr) (c d : Nat) (l : List AT) (w : World) (ha : AAt w a l) (hb : AAt w b l) (hl : (l.length : Int) + asz l ≤ 1048576) :
    Calls Tryd.prog 54 #[.slice a l.length c, .slice b l.length d] w fun e w' => e = .returned (.bool true) ∧ Below w.heap.size w w' := by
  have HA := Hid.mk' ha
  have HB := Hid.mk' hb
  clear ha hb
  go_enter Tryd.func54, Tryd.ntmps54
  go_wp2
  go_loopw [5] (fun i wr => ∃ k : Nat, k ≤ l.length ∧ i = .int .i64 k ∧ Below w.heap.size w wr) (fun i _ => l.length - (intOf i).toNat)
  case atStart => exact ⟨0, Nat.zero_le _, rfl, Below.refl _ _⟩
  case round =>
    obtain ⟨k, hk, rfl, hbl⟩ := hrel
    have R2 := Hid.mk' hbl
    by_cases hlt : k < l.length
    · have ci : (k : Int) < (l.length : Int) := by omega
      rcases HA.out.below hbl with ha | ⟨b1, o1, rfl, s1, hc1⟩
      · exact absurd hlt (by rw [ha]; exact Nat.not_lt_zero _)
      rcases HB.out.below hbl with hb | ⟨b2, o2, rfl, s2, hc2⟩
      · exact absurd hlt (by rw [hb]; exact Nat.not_lt_zero _)
      obtain ⟨h1, p1, d1, h2, h3⟩ := hc1 k hlt
      obtain ⟨h4, p2_, d2, h5, h6⟩ := hc2 k hlt
      have st := asz_take l k hlt
      have sl := asz_le l (k + 1)
      have KE : Hid (Calls Tryd.prog 68 #[.agg #[.string (atK l k).nm, .slice p1 (atK l k).vl.length d1], .agg #[.string (atK l k).nm, .slice p2_ (atK l k).vl.length d2]] wr.drew fun e w' => e = .returned (.bool true) ∧ Below wr.drew.heap.size wr.drew w') := eqAttr_any _ _ _ _ _ _ _ (h3.below (Below.refl _ _).drew) (h6.below (Below.refl _ _).drew) (by omega)
      clear hbl hc1 hc2 h3 h6 st sl
      go_wp2
      go_region_held3 (fun w' => w'.cell? ⟨b1, o1 + k * 2, none⟩ = some (.string (atK l k).nm) ∧ w'.cell? ⟨b1, o1 + k * 2 + 1, none⟩ = some (.slice p1 (atK l k).vl.length d1) ∧ w'.cell? ⟨b2, o2 + k * 2, none⟩ = some (.string (atK l k).nm) ∧ w'.cell? ⟨b2, o2 + k * 2 + 1, none⟩ = some (.slice p2_ (atK l k).vl.length d2)) (simp [*])
        ((go_at_call 68; refine KE.out.mono ?_; rintro e w1 ⟨rfl, hb1⟩; replace hb1 := undrew hb1; obtain ⟨hx1, hx2⟩ := bcell hb1))
      go_wp2
      go_roundw
      case rel => exact ⟨k + 1, by omega, by go_num, R2.out.trans (hb1.mono R2.out.size)⟩
      case measure => simp [intOf]; omega
    · have ci : ¬ (k : Int) < (l.length : Int) := by omega
      go_wp2
      go_ret
      exact ⟨rfl, R2.out⟩

end Go.Proofs.YtcjnfodkppcpoaaDoor

/- Names: the letters that a text begins with, both sides. -/
namespace Go.Proofs.YtcjnfodkppcpoaaDoor
open Go.RowKit
set_option linter.unusedVariables false

/-- A letter a to z. -/
def ltr (c : Nat) : Prop := 97 ≤ c ∧ c ≤ 122
def ltrB (c : Nat) : Bool := decide (97 ≤ c) && decide (c ≤ 122)
theorem ltrB_iff (c : Nat) : ltrB c = true ↔ ltr c := by unfold ltrB ltr; rw [Bool.and_eq_true, decide_eq_true_eq, decide_eq_true_eq]
theorem ltrB_true {c : Nat} (h : ltr c) : ltrB c = true := (ltrB_iff c).2 h
theorem ltrB_false {c : Nat} (h : ¬ ltr c) : ltrB c = false := Bool.eq_false_iff.2 fun e => h ((ltrB_iff c).1 e)

/-- The first k bytes are letters. -/
def low (s : ByteArray) (k : Nat) : Prop := ∀ i (h : i < s.size), i < k → ltr (s[i]'h).toNat

/-- A text that is a name. -/
def isNm (s : ByteArray) : Prop := 1 ≤ s.size ∧ s.size ≤ 8 ∧ low s s.size

/-- Whether a text is a name. -/
def nmB (s : ByteArray) : Bool := decide (1 ≤ s.size) && decide (s.size ≤ 8) && s.data.toList.all (fun b => ltrB b.toNat)

theorem nmB_iff (s : ByteArray) : nmB s = true ↔ isNm s := by
  unfold nmB isNm low
  rw [Bool.and_eq_true, Bool.and_eq_true, decide_eq_true_eq, decide_eq_true_eq, List.all_eq_true]
  constructor
  · rintro ⟨⟨h1, h2⟩, h3⟩
    exact ⟨h1, h2, fun i hi _ => (ltrB_iff _).1 (h3 (s[i]'hi) (Array.mem_toList_iff.2 (Array.getElem_mem hi)))⟩
  · rintro ⟨h1, h2, h3⟩
    refine ⟨⟨h1, h2⟩, fun b hb => ltrB_true ?_⟩
    obtain ⟨i, hi, rfl⟩ := Array.mem_iff_getElem.1 (Array.mem_toList_iff.1 hb)
    exact h3 i hi hi

theorem nmB_true {s : ByteArray} (h : isNm s) : nmB s = true := (nmB_iff s).2 h
theorem nmB_false {s : ByteArray} (h : ¬ isNm s) : nmB s = false := Bool.eq_false_iff.2 fun e => h ((nmB_iff s).1 e)

theorem low_next {s : ByteArray} {k : Nat} (h : low s k) (hk : k < s.size) (hc : ltr (s[k]'hk).toNat) : low s (k + 1) := fun i hi hik => by
  by_cases e : i = k
  · subst e; exact hc
  · exact h i hi (by omega)

theorem letters_any (s : ByteArray) (w : World) (hm : (s.size : Int) ≤ 9223372036854775807) :
    Calls Tryd.prog 92 #[.string s] w fun e w' => ∃ n : Nat, e = .returned (.int .i64 n) ∧ w' = w ∧ n ≤ s.size ∧ low s n ∧ ∀ h : n < s.size, ¬ ltr (s[n]'h).toNat := by
  go_enter Tryd.func92, Tryd.ntmps92
  go_wp2
  go_loop [3] (fun i => ∃ k : Nat, k ≤ s.size ∧ i = .int .i64 k ∧ low s k) (fun i => s.size - (intOf i).toNat)
  case atStart => exact ⟨0, Nat.zero_le _, rfl, fun i _ h => absurd h (Nat.not_lt_zero _)⟩
  case round =>
    obtain ⟨k, hk, rfl, hlow⟩ := hrel
    have HL := Hid.mk' hlow
    clear hlow
    by_cases hlt : k < s.size
    · have ci : (k : Int) < (s.size : Int) := by omega
      obtain ⟨cc, hc⟩ : ∃ c : Nat, (s[k]'hlt).toNat = c := ⟨_, rfl⟩
      by_cases b1 : (cc : Int) < 97
      · go_wp2
        go_ret
        exact ⟨k, rfl, rfl, hk, HL.out, fun h => by unfold ltr; omega⟩
      · by_cases b2 : (cc : Int) > 122
        · go_wp2
          go_ret
          exact ⟨k, rfl, rfl, hk, HL.out, fun h => by unfold ltr; omega⟩
        · go_wp2
          go_round
          case rel => exact ⟨k + 1, by omega, by go_num, low_next HL.out hlt (by unfold ltr; omega)⟩
          case measure => simp [intOf]; omega
    · have ci : ¬ (k : Int) < (s.size : Int) := by omega
      have e : k = s.size := by omega
      go_wp2
      go_ret
      exact ⟨s.size, by simp, rfl, Nat.le_refl _, e ▸ HL.out, fun h => absurd h (Nat.lt_irrefl _)⟩

theorem isName_any (s : ByteArray) (w : World) (hm : (s.size : Int) ≤ 9223372036854775807) :
    Calls Tryd.prog 87 #[.string s] w fun e w' => e = .returned (.bool (nmB s)) ∧ w' = w := by
  have K := Hid.mk' (letters_any s w hm)
  go_enter Tryd.func87, Tryd.ntmps87
  by_cases b1 : (s.size : Int) ≥ 1
  · by_cases b2 : (s.size : Int) ≤ 8
    · go_wp2_with fail
      refine K.out.mono ?_
      rintro e w1 ⟨n, rfl, rfl, hn, hl, hx⟩
      have HL := Hid.mk' hl
      have HX := Hid.mk' hx
      clear hl hx
      by_cases b3 : (n : Int) = s.size
      · go_wp2
        go_ret
        have e : n = s.size := by omega
        rw [nmB_true ⟨by omega, by omega, e ▸ HL.out⟩]
        exact ⟨by simp, rfl⟩
      · go_wp2
        go_ret
        rw [nmB_false fun h => HX.out (by omega) (h.2.2 n (by omega) (by omega))]
        exact ⟨by simp; omega, rfl⟩
    · go_wp2
      go_ret
      exact ⟨by rw [nmB_false fun h => by have := h.1; have := h.2.1; omega]; rfl, rfl⟩
  · go_wp2
    go_ret
    exact ⟨by rw [nmB_false fun h => by have := h.1; have := h.2.1; omega]; rfl, rfl⟩

theorem letter_any (c : Nat) (w : World) :
    Calls Tryd.prog 83 #[.int .u8 c] w fun e w' => e = .returned (.bool (ltrB c)) ∧ w' = w := by
  go_enter Tryd.func83, Tryd.ntmps83
  by_cases b1 : (c : Int) ≥ 97
  · by_cases b2 : (c : Int) ≤ 122
    · go_wp2
      go_ret
      exact ⟨by first | rw [ltrB_true (show ltr c by unfold ltr; omega)]; rfl | rw [ltrB_false (show ¬ ltr c by unfold ltr; omega)]; rfl, rfl⟩
    · go_wp2
      go_ret
      exact ⟨by first | rw [ltrB_true (show ltr c by unfold ltr; omega)]; rfl | rw [ltrB_false (show ¬ ltr c by unfold ltr; omega)]; rfl, rfl⟩
  · go_wp2
    go_ret
    exact ⟨by first | rw [ltrB_true (show ltr c by unfold ltr; omega)]; rfl | rw [ltrB_false (show ¬ ltr c by unfold ltr; omega)]; rfl, rfl⟩

theorem l4Name_any (s : ByteArray) (w : World) (hm : (s.size : Int) ≤ 9223372036854775807) :
    Calls Tryd.prog 70 #[.string s] w fun e w' => e = .returned (.bool (nmB s)) ∧ w' = w := by
  have K : Hid (∀ c : Nat, Calls Tryd.prog 83 #[.int .u8 c] w fun e w' => e = .returned (.bool (ltrB c)) ∧ w' = w) := fun c => letter_any c w
  go_enter Tryd.func70, Tryd.ntmps70
  go_wp2
  go_loop [3] (fun i => ∃ k : Nat, k ≤ s.size ∧ i = .int .i64 k ∧ low s k) (fun i => s.size - (intOf i).toNat)
  case atStart => exact ⟨0, Nat.zero_le _, rfl, fun i _ h => absurd h (Nat.not_lt_zero _)⟩
  case round =>
    obtain ⟨k, hk, rfl, hlow⟩ := hrel
    have HL := Hid.mk' hlow
    clear hlow
    by_cases hlt : k < s.size
    · have ci : (k : Int) < (s.size : Int) := by omega
      obtain ⟨cc, hc⟩ : ∃ c : Nat, (s[k]'hlt).toNat = c := ⟨_, rfl⟩
      by_cases b : ltr cc
      · have K := Hid.mk' (K.out cc)
        rw [ltrB_true b] at K
        go_wp2_with fail
        refine K.out.mono ?_
        rintro e w1 ⟨rfl, rfl⟩
        go_wp2
        go_round
        case rel => exact ⟨k + 1, by omega, by go_num, low_next HL.out hlt (by rw [hc]; exact b)⟩
        case measure => simp [intOf]; omega
      · have K := Hid.mk' (K.out cc)
        rw [ltrB_false b] at K
        go_wp2_with fail
        refine K.out.mono ?_
        rintro e w1 ⟨rfl, rfl⟩
        go_wp2
        go_ret
        exact ⟨by rw [nmB_false fun h => b (by rw [← hc]; exact h.2.2 k hlt hlt)]; rfl, rfl⟩
    · have ci : ¬ (k : Int) < (s.size : Int) := by omega
      have e : k = s.size := by omega
      by_cases b1 : (s.size : Int) ≥ 1
      · by_cases b2 : (s.size : Int) ≤ 8
        · go_wp2
          go_ret
          exact ⟨by rw [nmB_true ⟨by omega, by omega, e ▸ HL.out⟩]; rfl, rfl⟩
        · go_wp2
          go_ret
          exact ⟨by rw [nmB_false fun h => by have := h.1; have := h.2.1; omega]; rfl, rfl⟩
      · go_wp2
        go_ret
        exact ⟨by rw [nmB_false fun h => by have := h.1; have := h.2.1; omega]; rfl, rfl⟩

end Go.Proofs.YtcjnfodkppcpoaaDoor

/- The model's side of a token's fault. -/
namespace Go.Proofs.YtcjnfodkppcpoaaDoor
open Go.RowKit
set_option linter.unusedVariables false

/-- Where an attribute of that name stands; -1: nowhere. -/
def posFrom : List AT → ByteArray → Nat → Int
  | [], _, _ => -1
  | x :: r, s, n => if (x.nm.toList == s.toList) = true then (n : Int) else posFrom r s (n + 1)
def posK (l : List AT) (s : ByteArray) : Int := posFrom l s 0

theorem posFrom_found : ∀ (l : List AT) (s : ByteArray) (n k : Nat), k < l.length → (∀ j, j < k → ((atK l j).nm.toList == s.toList) = false) → ((atK l k).nm.toList == s.toList) = true → posFrom l s n = ((n + k : Nat) : Int)
  | [], _, _, _, h, _, _ => absurd h (Nat.not_lt_zero _)
  | x :: r, s, n, 0, _, _, e => by
    have : (x.nm.toList == s.toList) = true := e
    unfold posFrom
    rw [if_pos this, Nat.add_zero]
  | x :: r, s, n, k + 1, h, hn, e => by
    have h0 : (x.nm.toList == s.toList) = false := hn 0 (by omega)
    have ih := posFrom_found r s (n + 1) k (by simpa using h) (fun j hj => hn (j + 1) (by omega)) e
    unfold posFrom
    rw [if_neg (by rw [h0]; exact Bool.false_ne_true), ih]
    omega

theorem posFrom_none : ∀ (l : List AT) (s : ByteArray) (n : Nat), (∀ j, j < l.length → ((atK l j).nm.toList == s.toList) = false) → posFrom l s n = -1
  | [], _, _, _ => rfl
  | x :: r, s, n, hn => by
    have h0 : (x.nm.toList == s.toList) = false := hn 0 (by simp)
    unfold posFrom
    rw [if_neg (by rw [h0]; exact Bool.false_ne_true)]
    exact posFrom_none r s (n + 1) (fun j hj => hn (j + 1) (by simp; omega))

set_option maxHeartbeats 800000 in
theorem l4Has_any (a : Option Addr) (c : Nat) (l : List AT) (s : ByteArray) (w : World) (ha : AAt w a l) (hl : (l.length : Int) ≤ 1048576) :
    Calls Tryd.prog 84 #[.slice a l.length c, .string s] w fun e w' => e = .returned (.int .i64 (posK l s)) ∧ w' = w := by
  go_enter Tryd.func84, Tryd.ntmps84
  go_wp2
  go_loop [5] (fun i => ∃ k : Nat, k ≤ l.length ∧ i = .int .i64 k ∧ ∀ j, j < k → ((atK l j).nm.toList == s.toList) = false) (fun i => l.length - (intOf i).toNat)
  case atStart => exact ⟨0, Nat.zero_le _, rfl, fun j h => absurd h (Nat.not_lt_zero _)⟩
  case round =>
    obtain ⟨k, hk, rfl, hn⟩ := hrel
    have HN := Hid.mk' hn
    clear hn
    by_cases hlt : k < l.length
    · have ci : (k : Int) < (l.length : Int) := by omega
      rcases ha with ha | ⟨b, o, rfl, hbs, hc⟩
      · exact absurd hlt (by rw [ha]; exact Nat.not_lt_zero _)
      obtain ⟨h1, p, d, h2, _⟩ := hc k hlt
      clear hc
      cases e : ((atK l k).nm.toList == s.toList) with
      | true =>
        go_wp2
        go_ret
        refine ⟨?_, rfl⟩
        unfold posK
        rw [posFrom_found l s 0 k hlt HN.out e, Nat.zero_add]
        rfl
      | false =>
        go_wp2
        go_round
        case rel => exact ⟨k + 1, by omega, by go_num, fun j hj => by
          by_cases h : j = k
          · subst h; exact e
          · exact HN.out j (by omega)⟩
        case measure => simp [intOf]; omega
    · have ci : ¬ (k : Int) < (l.length : Int) := by omega
      have e : k = l.length := by omega
      subst e
      go_wp2
      go_ret
      refine ⟨?_, rfl⟩
      unfold posK
      rw [posFrom_none l s 0 HN.out]
      rfl

theorem atK_take {l : List AT} {j k : Nat} (h : j < k) (hk : k ≤ l.length) : atK (l.take k) j = atK l j := by
  unfold atK
  rw [List.getD_eq_getElem?_getD, List.getD_eq_getElem?_getD, List.getElem?_take_of_lt h]

theorem AAt.take {w : World} {a : Option Addr} {l : List AT} (h : AAt w a l) (k : Nat) (hk : k ≤ l.length) : AAt w a (l.take k) := by
  rcases h with h | ⟨b, o, e, hs, hc⟩
  · left; rw [h]; simp
  · refine .inr ⟨b, o, e, hs, fun j hj => ?_⟩
    rw [List.length_take] at hj
    rw [atK_take (by omega) hk]
    exact hc j (by omega)

/-- The code of attributes: those ahead, and those to come. -/
def afR : List AT → List AT → Int
  | _, [] => 0
  | seen, x :: r => if nmB x.nm = true then (if 0 ≤ posK seen x.nm then 1 else afR (seen ++ [x]) r) else 5
def afault (l : List AT) : Int := afR [] l

theorem afR_step {l : List AT} {k : Nat} (hk : k < l.length) : afR (l.take k) (l.drop k) = if nmB (atK l k).nm = true then (if 0 ≤ posK (l.take k) (atK l k).nm then 1 else afR (l.take (k + 1)) (l.drop (k + 1))) else 5 := by
  have e1 : l.drop k = atK l k :: l.drop (k + 1) := by
    rw [List.drop_eq_getElem_cons hk]
    unfold atK
    rw [List.getD_eq_getElem?_getD, List.getElem?_eq_getElem hk]; rfl
  have e2 : l.take (k + 1) = l.take k ++ [atK l k] := by
    rw [List.take_succ_eq_append_getElem hk]
    unfold atK
    rw [List.getD_eq_getElem?_getD, List.getElem?_eq_getElem hk]; rfl
  rw [e1, e2]
  rfl

set_option maxHeartbeats 1600000 in
theorem l4Attrs_any (a : Option Addr) (c : Nat) (l : List AT) (w : World) (ha : AAt w a l) (hc : l.length ≤ c) (hl : (l.length : Int) + asz l ≤ 1048576) :
    Calls Tryd.prog 71 #[.slice a l.length c] w fun e w' => e = .returned (.int .i64 (afault l)) ∧ Below w.heap.size w w' := by
  have HA := Hid.mk' ha
  clear ha
  go_enter Tryd.func71, Tryd.ntmps71
  go_wp2
  go_loopw [3] (fun i wr => ∃ k : Nat, k ≤ l.length ∧ i = .int .i64 k ∧ afault l = afR (l.take k) (l.drop k) ∧ Below w.heap.size w wr) (fun i _ => l.length - (intOf i).toNat)
  case atStart => exact ⟨0, Nat.zero_le _, rfl, rfl, Below.refl _ _⟩
  case round =>
    obtain ⟨k, hk, rfl, hf, hbl⟩ := hrel
    have HF := Hid.mk' hf
    have HB := Hid.mk' hbl
    by_cases hlt : k < l.length
    · have ci : (k : Int) < (l.length : Int) := by omega
      have HS := Hid.mk' (afR_step hlt)
      have hAk := HA.out.below hbl
      have HT := Hid.mk' (hAk.take k hk)
      rcases hAk with ha | ⟨b, o, rfl, hbs, hcl⟩
      · exact absurd hlt (by rw [ha]; exact Nat.not_lt_zero _)
      obtain ⟨h1, p, d, h2, _⟩ := hcl k hlt
      have st := asz_take l k hlt
      have sl := asz_le l (k + 1)
      have KN := Hid.mk' (l4Name_any (atK l k).nm wr (by omega))
      clear hf hbl hcl
      cases hn : nmB (atK l k).nm with
      | false =>
        rw [hn] at KN
        go_wp2_with fail
        refine KN.out.mono ?_
        rintro e w1 ⟨rfl, rfl⟩
        go_wp2
        go_ret
        refine ⟨?_, HB.out⟩
        rw [HF.out, HS.out, hn]
        rfl
      | true =>
        rw [hn] at KN
        go_wp2_with fail
        refine KN.out.mono ?_
        rintro e w1 ⟨rfl, rfl⟩
        have KH := l4Has_any (some ⟨b, o, none⟩) c (l.take k) (atK l k).nm w1.drew (HT.out.below (Below.refl _ _).drew) (by rw [List.length_take]; omega)
        rw [List.length_take, Nat.min_eq_left hk] at KH
        have KH := Hid.mk' KH
        have b1 : (0 : Int) ≤ (k : Int) := by omega
        have b2 : (k : Int) ≤ (c : Int) := by omega
        by_cases hp : 0 ≤ posK (l.take k) (atK l k).nm
        · have HE : Hid (afault l = 1) := Hid.mk' (by rw [HF.out, HS.out, hn, if_pos rfl, if_pos hp])
          generalize posK (l.take k) (atK l k).nm = q at *
          clear HS HT HF KN st sl
          go_wp2
          go_region_held3 (fun w' => w'.cell? ⟨b, o + k * 2, none⟩ = some (.string (atK l k).nm)) (simp [*])
            ((go_at_call 84; refine KH.out.mono ?_; rintro e w2 ⟨rfl, rfl⟩))
          go_wp2
          go_ret
          exact ⟨by rw [HE.out]; rfl, HB.out.drew⟩
        · have HE : Hid (afault l = afR (l.take (k + 1)) (l.drop (k + 1))) := Hid.mk' (by rw [HF.out, HS.out, hn, if_pos rfl, if_neg hp])
          generalize posK (l.take k) (atK l k).nm = q at *
          clear HS HT HF KN st sl
          go_wp2
          go_region_held3 (fun w' => w'.cell? ⟨b, o + k * 2, none⟩ = some (.string (atK l k).nm)) (simp [*])
            ((go_at_call 84; refine KH.out.mono ?_; rintro e w2 ⟨rfl, rfl⟩))
          go_wp2
          go_roundw
          case rel => exact ⟨k + 1, by omega, by go_num, HE.out, HB.out.drew⟩
          case measure => simp [intOf]; omega
    · have ci : ¬ (k : Int) < (l.length : Int) := by omega
      have e : k = l.length := by omega
      subst e
      go_wp2
      go_ret
      refine ⟨?_, HB.out⟩
      have h := HF.out
      rw [List.drop_length, List.take_length] at h
      first | rfl | (rw [h]; rfl)

end Go.Proofs.YtcjnfodkppcpoaaDoor

/- The model's side: a token's form, and its code. -/
namespace Go.Proofs.YtcjnfodkppcpoaaDoor
open Go.RowKit
set_option linter.unusedVariables false

theorem l1In_any (v lo hi : Int) (w : World) : Calls Tryd.prog 34 #[.int .i64 v, .int .i64 lo, .int .i64 hi] w fun e w' => e = .returned (.bool (decide (lo ≤ v) && decide (v ≤ hi))) ∧ w' = w := by
  by_cases h1 : lo ≤ v
  · by_cases h2 : v ≤ hi
    · go_enter Tryd.func34, Tryd.ntmps34
      go_wp2
      go_ret
      exact ⟨by simp [h1, h2], rfl⟩
    · go_enter Tryd.func34, Tryd.ntmps34
      go_wp2
      go_ret
      exact ⟨by simp; omega, rfl⟩
  · go_enter Tryd.func34, Tryd.ntmps34
    go_wp2
    go_ret
    exact ⟨by simp; omega, rfl⟩

/-- A token of a kind that there is, with nothing that its kind has not. -/
def tform (t : TK) : Bool := decide (1 ≤ t.kd) && decide (t.kd ≤ 4) && (decide (t.kd = 1) || decide (t.by_ = 0)) && (decide (t.kd = 2) || decide (t.kd = 3) || (t.nm.toList == [])) && (decide (t.kd = 2) || (decide (t.at_.length = 0) && !t.sh))

set_option maxHeartbeats 3200000 in
theorem l4Form_any (t : TK) (g : Nat) (a : Option Addr) (c : Nat) (w : World) (h : w.rowIs g 105 5 (r5 (.int .i64 t.kd) (.int .i64 t.by_) (.string t.nm) (.slice a t.at_.length c) (.bool t.sh))) :
    Calls Tryd.prog 91 #[.pointer (some ⟨g, 0, none⟩)] w fun e w' => e = .returned (.bool (tform t)) ∧ w' = w := by
  have K := l1In_any t.kd 1 4 w
  obtain ⟨c0, c1, c2, c3, c4, c5⟩ := cells5 h
  clear h
  by_cases k1 : 1 ≤ t.kd ∧ t.kd ≤ 4
  · have kk : t.kd = 1 ∨ t.kd = 2 ∨ t.kd = 3 ∨ t.kd = 4 := by omega
    rw [show (decide (1 ≤ t.kd) && decide (t.kd ≤ 4)) = true by simp [k1]] at K
    rcases kk with e | e | e | e
    all_goals
      rw [e] at c0 K
      have K := Hid.mk' K
      have E := Hid.mk' e
      clear e k1
      go_enter Tryd.func91, Tryd.ntmps91
      go_wp2_with (first | go_big_skip | (go_at_call 34; refine K.out.mono ?_; rintro e w1 ⟨rfl, rfl⟩))
    all_goals go_ret
    all_goals
      have e := E.out
      exact ⟨by simp [tform, *], rfl⟩
  · rw [show (decide (1 ≤ t.kd) && decide (t.kd ≤ 4)) = false by simp; omega] at K
    have K := Hid.mk' K
    have E : Hid (tform t = false) := Hid.mk' (by
      unfold tform
      rw [show (decide (1 ≤ t.kd) && decide (t.kd ≤ 4)) = false by simp; omega]
      simp)
    have n1 : ¬ t.kd = 1 := by omega
    have n2 : ¬ t.kd = 2 := by omega
    have n3 : ¬ t.kd = 3 := by omega
    clear k1
    go_enter Tryd.func91, Tryd.ntmps91
    go_wp2_with (first | go_big_skip | (go_at_call 34; refine K.out.mono ?_; rintro e w1 ⟨rfl, rfl⟩))
    all_goals go_ret
    all_goals exact ⟨by rw [E.out]; rfl, rfl⟩

/-- The code of a token. -/
def tfault (t : TK) : Int := if tform t = true then (if 0 ≤ t.by_ ∧ t.by_ ≤ 255 then (if (t.kd = 2 ∨ t.kd = 3) ∧ nmB t.nm = false then 5 else afault t.at_) else 3) else 1

set_option maxHeartbeats 3200000 in
theorem l4Fault_any (t : TK) (g : Nat) (a : Option Addr) (c : Nat) (w : World) (h : w.rowIs g 105 5 (r5 (.int .i64 t.kd) (.int .i64 t.by_) (.string t.nm) (.slice a t.at_.length c) (.bool t.sh))) (ha : AAt w a t.at_) (hc : t.at_.length ≤ c) (hn : (t.nm.size : Int) ≤ 1048576) (hl : (t.at_.length : Int) + asz t.at_ ≤ 1048576) :
    Calls Tryd.prog 85 #[.pointer (some ⟨g, 0, none⟩)] w fun e w' => e = .returned (.int .i64 (tfault t)) ∧ Below w.heap.size w w' := by
  have KF := l4Form_any t g a c w h
  have KI := l1In_any t.by_ 0 255 w
  have KN := l4Name_any t.nm w (by omega)
  have KA := Hid.mk' (l4Attrs_any a c t.at_ w ha hc hl)
  obtain ⟨c0, c1, c2, c3, c4, c5⟩ := cells5 h
  clear h ha
  cases hf : tform t with
  | false =>
    rw [hf] at KF
    have KF := Hid.mk' KF
    have E : Hid (tfault t = 1) := Hid.mk' (by unfold tfault; rw [hf]; rfl)
    clear KI KN
    go_enter Tryd.func85, Tryd.ntmps85
    go_wp2_with fail
    refine KF.out.mono ?_
    rintro e w1 ⟨rfl, rfl⟩
    go_wp2
    go_ret
    exact ⟨by rw [E.out]; rfl, Below.refl _ _⟩
  | true =>
    rw [hf] at KF
    have KF := Hid.mk' KF
    by_cases hb : 0 ≤ t.by_ ∧ t.by_ ≤ 255
    · rw [show (decide (0 ≤ t.by_) && decide (t.by_ ≤ 255)) = true by simp [hb]] at KI
      have KI := Hid.mk' KI
      by_cases hk : t.kd = 2 ∨ t.kd = 3
      · cases hnm : nmB t.nm with
        | false =>
          rw [hnm] at KN
          have KN := Hid.mk' KN
          have E : Hid (tfault t = 5) := Hid.mk' (by unfold tfault; rw [if_pos hf, if_pos hb, if_pos ⟨hk, hnm⟩])
          clear hb
          rcases hk with e | e
          all_goals
            rw [e] at c0
            clear e
            go_enter Tryd.func85, Tryd.ntmps85
            go_wp2_with (first | go_big_skip | (go_at_call 91; refine KF.out.mono ?_; rintro e w1 ⟨rfl, rfl⟩) | (go_at_call 34; refine KI.out.mono ?_; rintro e w1 ⟨rfl, rfl⟩) | (go_at_call 70; refine KN.out.mono ?_; rintro e w1 ⟨rfl, rfl⟩))
            go_ret
            exact ⟨by rw [E.out]; rfl, Below.refl _ _⟩
        | true =>
          rw [hnm] at KN
          have KN := Hid.mk' KN
          have E : Hid (tfault t = afault t.at_) := Hid.mk' (by unfold tfault; rw [if_pos hf, if_pos hb, if_neg (by rw [hnm]; simp)])
          clear hb
          rcases hk with e | e
          all_goals
            rw [e] at c0
            clear e
            go_enter Tryd.func85, Tryd.ntmps85
            go_wp2_with (first | go_big_skip | (go_at_call 91; refine KF.out.mono ?_; rintro e w1 ⟨rfl, rfl⟩) | (go_at_call 34; refine KI.out.mono ?_; rintro e w1 ⟨rfl, rfl⟩) | (go_at_call 70; refine KN.out.mono ?_; rintro e w1 ⟨rfl, rfl⟩) | (go_at_call 71; refine KA.out.mono ?_; rintro e w1 ⟨rfl, hbb⟩; have HB := Hid.mk' hbb; clear hbb))
            go_ret
            exact ⟨by rw [E.out]; rfl, HB.out⟩
      · have n2 : ¬ t.kd = 2 := fun e => hk (.inl e)
        have n3 : ¬ t.kd = 3 := fun e => hk (.inr e)
        have E : Hid (tfault t = afault t.at_) := Hid.mk' (by unfold tfault; rw [if_pos hf, if_pos hb, if_neg (fun h => hk h.1)])
        clear hb hk KN
        go_enter Tryd.func85, Tryd.ntmps85
        go_wp2_with (first | go_big_skip | (go_at_call 91; refine KF.out.mono ?_; rintro e w1 ⟨rfl, rfl⟩) | (go_at_call 34; refine KI.out.mono ?_; rintro e w1 ⟨rfl, rfl⟩) | (go_at_call 71; refine KA.out.mono ?_; rintro e w1 ⟨rfl, hbb⟩; have HB := Hid.mk' hbb; clear hbb))
        go_ret
        exact ⟨by rw [E.out]; rfl, HB.out⟩
    · rw [show (decide (0 ≤ t.by_) && decide (t.by_ ≤ 255)) = false by simp; omega] at KI
      have KI := Hid.mk' KI
      have E : Hid (tfault t = 3) := Hid.mk' (by unfold tfault; rw [if_pos hf, if_neg hb])
      clear hb KN
      go_enter Tryd.func85, Tryd.ntmps85
      go_wp2_with (first | (go_at_call 91; refine KF.out.mono ?_; rintro e w1 ⟨rfl, rfl⟩) | (go_at_call 34; refine KI.out.mono ?_; rintro e w1 ⟨rfl, rfl⟩))
      go_ret
      exact ⟨by rw [E.out]; rfl, Below.refl _ _⟩

end Go.Proofs.YtcjnfodkppcpoaaDoor
