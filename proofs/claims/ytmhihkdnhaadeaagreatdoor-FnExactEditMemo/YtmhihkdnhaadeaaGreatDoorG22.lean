/- Walks: lists of tokens that are the same are told so; the model's SameTokens. -/
import Derived.Test.YtmhihkdnhaadeaaGreatDoorG17
import Derived.BigGuard
import Derived.Laws.BytesString
import Derived.Laws.IdiomStrings
import Derived.Test.YtmhihkdnhaadeaaGreatDoorG14
import Derived.Test.YtmhihkdnhaadeaaGreatDoorG16
set_option maxHeartbeats 8000000
set_option maxRecDepth 100000
set_option linter.unusedVariables false
set_option linter.unusedSimpArgs false
namespace Go.Proofs.YtmhihkdnhaadeaaGreatDoor
open Go.RowKit
theorem eqTokenS_any (a b : Option Addr) (c d : Nat) (l : List TK) (w : World) (ha : TsAt w a l) (hb : TsAt w b l) (hl : (l.length : Int) + tssz l ≤ 1048576) :
  Calls Tryz.prog 29 #[.slice a l.length c, .slice b l.length d] w fun e w' => e = .returned (.bool true) ∧ Below w.heap.size w w' := by
 have HA := Hid.mk' ha
 have HB := Hid.mk' hb
 clear ha hb
 go_enter Tryz.func29, Tryz.ntmps29
 go_wp2
 go_loopw [5] (fun i wr => ∃ k : Nat, k ≤ l.length ∧ i = .int .i64 k ∧ Below w.heap.size w wr) (fun i _ => l.length - (intOf i).toNat)
 case atStart => exact ⟨0, Nat.zero_le _, rfl, Below.refl _ _⟩
 case round =>
  obtain ⟨k, hk, rfl, hbl⟩ := hrel
  have R2 := Hid.mk' hbl
  by_cases hlt : k < l.length
  ·have ci : (k : Int) < (l.length : Int) := by omega
   rcases HA.out.below hbl with ha | ⟨b1, o1, rfl, s1, hc1⟩
   ·exact absurd hlt (by rw [ha]; exact Nat.not_lt_zero _)
   rcases HB.out.below hbl with hb | ⟨b2, o2, rfl, s2, hc2⟩
   ·exact absurd hlt (by rw [hb]; exact Nat.not_lt_zero _)
   obtain ⟨x1, x2, x3, ⟨p1, d1, x4, x5⟩, x6⟩ := hc1 k hlt
   obtain ⟨y1, y2, y3, ⟨p2_, d2, y4, y5⟩, y6⟩ := hc2 k hlt
   have st := tssz_take l k hlt
   have sl := tssz_le l (k + 1)
   unfold tsz at st
   have KE := Hid.mk' (eqToken_any (tkK l k) p1 p2_ d1 d2 wr.drew (x5.below (Below.refl _ _).drew) (y5.below (Below.refl _ _).drew) (by omega))
   clear hbl hc1 hc2 x5 y5 st sl
   go_wp2
   go_region_held3 (fun w' => w'.cell? ⟨b1, o1 + k * 5, none⟩ = some (.int .i64 (tkK l k).kd) ∧ w'.cell? ⟨b1, o1 + k * 5 + 1, none⟩ = some (.int .i64 (tkK l k).by_) ∧ w'.cell? ⟨b1, o1 + k * 5 + 2, none⟩ = some (.string (tkK l k).nm) ∧ w'.cell? ⟨b1, o1 + k * 5 + 3, none⟩ = some (.slice p1 (tkK l k).at_.length d1) ∧ w'.cell? ⟨b1, o1 + k * 5 + 4, none⟩ = some (.bool (tkK l k).sh) ∧ w'.cell? ⟨b2, o2 + k * 5, none⟩ = some (.int .i64 (tkK l k).kd) ∧ w'.cell? ⟨b2, o2 + k * 5 + 1, none⟩ = some (.int .i64 (tkK l k).by_) ∧ w'.cell? ⟨b2, o2 + k * 5 + 2, none⟩ = some (.string (tkK l k).nm) ∧ w'.cell? ⟨b2, o2 + k * 5 + 3, none⟩ = some (.slice p2_ (tkK l k).at_.length d2) ∧ w'.cell? ⟨b2, o2 + k * 5 + 4, none⟩ = some (.bool (tkK l k).sh)) (simp [*])
    ((go_at_call 54; refine KE.out.mono ?_; rintro e w1 ⟨rfl, hb1⟩; replace hb1 := undrew hb1; obtain ⟨hx1, hx2⟩ := bcell hb1))
   go_wp2
   go_roundw
   case rel => exact ⟨k + 1, by omega, by go_num, R2.out.trans (hb1.mono R2.out.size)⟩
   case measure => simp [intOf]; omega
  ·have ci : ¬ (k : Int) < (l.length : Int) := by omega
   go_wp2
   go_ret
   exact ⟨rfl, R2.out⟩
structure CK where
 pl : Int
 ct : Int
 hd : List Int
def ckK (l : List CK) (k : Nat) : CK := l.getD k ⟨0, 0, []⟩
def CsAt (w : World) (a : Option Addr) (l : List CK) : Prop :=
 l = [] ∨ ∃ b o, a = some ⟨b, o, none⟩ ∧ b < w.heap.size ∧ ∀ k, k < l.length → w.cell? ⟨b, o + k * 3, none⟩ = some (.int .i64 (ckK l k).pl) ∧ w.cell? ⟨b, o + k * 3 + 1, none⟩ = some (.int .i64 (ckK l k).ct) ∧ ∃ p c, w.cell? ⟨b, o + k * 3 + 2, none⟩ = some (.slice p (ckK l k).hd.length c) ∧ BAt w p (ckK l k).hd
theorem CsAt.below {w w' : World} {a : Option Addr} {l : List CK} (h : CsAt w a l) (hb : Below w.heap.size w w') : CsAt w' a l := by
 rcases h with h | ⟨b, o, e, hs, hc⟩
 ·exact .inl h
 ·refine .inr ⟨b, o, e, Nat.lt_of_lt_of_le hs hb.size, fun k hk => ?_⟩
  obtain ⟨h1, h2, p, c, h3, h4⟩ := hc k hk
  exact ⟨(hb.cell hs).trans h1, (hb.cell hs).trans h2, p, c, (hb.cell hs).trans h3, h4.below hb⟩
def csz : List CK → Nat
 | [] => 0
 | x :: r => x.hd.length + csz r
theorem csz_take (l : List CK) : ∀ k, k < l.length → csz (l.take (k + 1)) = csz (l.take k) + (ckK l k).hd.length := by
 induction l with
 | nil => intro k h; exact absurd h (Nat.not_lt_zero _)
 | cons x r ih =>
  intro k hk
  cases k with
  | zero => simp [csz, ckK]
  | succ k =>
   have := ih k (by simpa using hk)
   simp only [List.take_succ_cons, csz]
   rw [this]
   have e : ckK (x :: r) (k + 1) = ckK r k := by simp [ckK]
   rw [e]; omega
theorem csz_le (l : List CK) (k : Nat) : csz (l.take k) ≤ csz l := by
 induction l generalizing k with
 | nil => simp [csz]
 | cons x r ih =>
  cases k with
  | zero => simp [csz]
  | succ k => simp only [List.take_succ_cons, csz]; have := ih k; omega
theorem szCheck_any (x y : Int) (a : Option Addr) (n c : Nat) (l : Int) (w : World) (h0 : 0 ≤ l) (h1 : l ≤ 1048576) (hn : (n : Int) ≤ 9223372036854775807) :
  Calls Tryz.prog 38 #[.agg #[.int .i64 x, .int .i64 y, .slice a n c], .int .i64 l] w fun e w' => e = .returned (.int .i64 (if l < (n : Int) then -1 else l - n)) ∧ Below w.heap.size w w' := by
 by_cases g2 : l < (n : Int)
 ·rw [if_pos (by omega)]
  go_enter Tryz.func38, Tryz.ntmps38
  go_wp2_with (go_at_call 20; refine (szByteS_any _ _ _ _ _ (by omega) (by omega) (by omega)).mono ?_; rintro e w' ⟨rfl, rfl⟩)
  go_ret
  exact ⟨rfl, (Below.refl _ _).alloc (Nat.le_refl _) _⟩
 ·rw [if_neg (by omega)]
  go_enter Tryz.func38, Tryz.ntmps38
  go_wp2_with (go_at_call 20; refine (szByteS_any _ _ _ _ _ (by omega) (by omega) (by omega)).mono ?_; rintro e w' ⟨rfl, rfl⟩)
  go_ret
  exact ⟨rfl, (Below.refl _ _).alloc (Nat.le_refl _) _⟩
def WideC (l : List CK) : Prop := ∀ k, k < l.length → ((ckK l k).hd.length : Int) ≤ 9223372036854775807
theorem szCheckS_any (a : Option Addr) (c : Nat) (l : List CK) (z : Int) (w : World) (ha : CsAt w a l) (hw : WideC l) (h0 : 0 ≤ z) (h1 : z ≤ 1048576) (hl : (l.length : Int) ≤ 9223372036854775807) :
  Calls Tryz.prog 22 #[.slice a l.length c, .int .i64 z] w fun e w' => e = .returned (.int .i64 (if z < (l.length : Int) + csz l then -1 else z - l.length - csz l)) ∧ Below w.heap.size w w' := by
 by_cases g1 : z < (l.length : Int)
 ·rw [if_pos (by omega)]
  go_enter Tryz.func22, Tryz.ntmps22
  go_wp2
  go_ret
  exact ⟨rfl, Below.refl _ _⟩
 have HA := Hid.mk' ha
 have HW := Hid.mk' hw
 clear ha hw
 go_enter Tryz.func22, Tryz.ntmps22
 go_wp2
 go_loopw [1, 5] (fun x i wr => ∃ k : Nat, k ≤ l.length ∧ i = .int .i64 k ∧ x = .int .i64 (z - (l.length : Int) - (csz (l.take k) : Int)) ∧ (csz (l.take k) : Int) ≤ z - l.length ∧ Below w.heap.size w wr) (fun _ i _ => l.length - (intOf i).toNat)
 case atStart => exact ⟨0, Nat.zero_le _, rfl, by simp [csz], by simp [csz]; omega, Below.refl _ _⟩
 case round =>
  obtain ⟨k, hk, rfl, rfl, hz, hbl⟩ := hrel
  have HB := Hid.mk' hbl
  clear hbl
  by_cases hlt : k < l.length
  ·have ci : (k : Int) < (l.length : Int) := by omega
   rcases HA.out.below HB.out with ha | ⟨b, o, rfl, hbs, hc⟩
   ·exact absurd hlt (by rw [ha]; exact Nat.not_lt_zero _)
   obtain ⟨q1, q3, p, d, q2, _⟩ := hc k hlt
   have w2 := HW.out k hlt
   have st := csz_take l k hlt
   have KA := Hid.mk' (szCheck_any (ckK l k).pl (ckK l k).ct p (ckK l k).hd.length d (z - (l.length : Int) - (csz (l.take k) : Int)) wr (by omega) (by omega) w2)
   generalize hn1 : (ckK l k).pl = pl at *
   generalize hn3 : (ckK l k).ct = ct at *
   generalize hn2 : (ckK l k).hd.length = n at *
   generalize hy : z - (l.length : Int) - (csz (l.take k) : Int) = y at *
   clear hc
   by_cases g2 : y < (n : Int)
   ·rw [if_pos g2] at KA
    have gz : z < (l.length : Int) + csz l := by have := csz_le l (k + 1); omega
    go_wp2_with fail
    refine KA.out.mono ?_
    rintro e w1 ⟨rfl, hb⟩
    have HB := Hid.mk' (HB.out.trans (hb.mono HB.out.size))
    clear hb KA
    go_wp2
    go_ret
    exact ⟨by first | rfl | (rw [if_pos gz]; rfl), HB.out⟩
   ·rw [if_neg g2] at KA
    have gy : ¬ (y - (n : Int) < 0) := by omega
    go_wp2_with fail
    refine KA.out.mono ?_
    rintro e w1 ⟨rfl, hb⟩
    have HB := Hid.mk' (HB.out.trans (hb.mono HB.out.size))
    clear hb KA
    go_wp2
    go_roundw
    case rel => exact ⟨k + 1, by omega, by go_num, by congr 1; omega, by omega, HB.out⟩
    case measure => simp [intOf]; omega
  ·have ci : ¬ (k : Int) < (l.length : Int) := by omega
   have e : k = l.length := by omega
   subst e
   rw [List.take_length] at hz
   go_wp2
   go_ret
   exact ⟨by first | rfl | (simp; done) | (rw [if_neg (by omega)]; simp), HB.out⟩
theorem Tryz.info57 : (Tryz.prog.info? 57).map (fun i => (i.zero, i.size, i.bytes)) = some (some (.agg #[.int .i64 0, .int .i64 0, .slice none 0 0]), 3, 40) := by kernel_rfl
theorem make_checks {P : Program} (t e : TypeId) (ht : P.underlying t = some (.slice e)) (hinfo : (P.info? e).map (fun i => (i.zero, i.size, i.bytes)) = some (some (.agg #[.int .i64 0, .int .i64 0, .slice none 0 0]), 3, 40))
  (n : Nat) (hn : (n : Int) ≤ 1048576) (w : World) :
  (Instr.makeSlice t (.int .i64 (n : Int)) (.int .i64 (n : Int))).run P w = .ok (.slice (some ⟨w.heap.size, 0, none⟩) n n) (w.alloc (.cells (madeCells #[.int .i64 0, .int .i64 0, .slice none 0 0] (n * 3)) e)) := by
 obtain ⟨i, hi, hzz⟩ := Option.map_eq_some_iff.1 hinfo
 simp only [Prod.mk.injEq] at hzz
 obtain ⟨hz, hs, hb⟩ := hzz
 have hr := run_make (P := P) w t e i _ ht hi hz .i64 .i64 n n (by omega) (Int.le_refl _) (by rw [hb]; omega) (by omega)
 simp only [Int.toNat_natCast, hs] at hr
 exact hr
theorem toCheck_any (x y : Int) (a : Option Addr) (c : Nat) (l : List Int) (w : World) (ha : BAt w a l) (hl : (l.length : Int) ≤ 1048576) :
  Calls Tryz.prog 47 #[.agg #[.int .i64 x, .int .i64 y, .slice a l.length c]] w fun e w' => ∃ b, e = .returned (.agg #[.int .i64 x, .int .i64 y, .slice (some ⟨b, 0, none⟩) l.length l.length]) ∧ w.heap.size ≤ b ∧ w'.rowIs b 5 l.length (bv l) ∧ Below w.heap.size w w' := by
 have B0 := ((Below.refl w.heap.size w).alloc (Nat.le_refl _) (.cells #[.int .i64 x, .int .i64 y, .slice a l.length c] 76)).alloc (by simp) (.cells #[.int .i64 0, .int .i64 0, .slice none 0 0] 57)
 have B1 := B0.alloc (by simp; omega) (.cells #[.int .i64 x, .int .i64 y, .slice none 0 0] 57)
 have RR := (row3 (w.alloc (.cells #[.int .i64 x, .int .i64 y, .slice a l.length c] 76)) 57 (.int .i64 0) (.int .i64 0) (.slice none 0 0)).alloc (.cells #[.int .i64 x, .int .i64 y, .slice none 0 0] 57)
 have RO := row3 ((w.alloc (.cells #[.int .i64 x, .int .i64 y, .slice a l.length c] 76)).alloc (.cells #[.int .i64 0, .int .i64 0, .slice none 0 0] 57)) 57 (.int .i64 x) (.int .i64 y) (.slice none 0 0)
 have RP := ((row3 w 76 (.int .i64 x) (.int .i64 y) (.slice a l.length c)).alloc (.cells #[.int .i64 0, .int .i64 0, .slice none 0 0] 57)).alloc (.cells #[.int .i64 x, .int .i64 y, .slice none 0 0] 57)
 have KB := Hid.mk' (toByteS_any a c l _ (ha.below B1) hl)
 have HB := Hid.mk' B1
 have z1 : (w.alloc (.cells #[.int .i64 x, .int .i64 y, .slice a l.length c] 76)).heap.size = w.heap.size + 1 := by simp
 have z2 : ((w.alloc (.cells #[.int .i64 x, .int .i64 y, .slice a l.length c] 76)).alloc (.cells #[.int .i64 0, .int .i64 0, .slice none 0 0] 57)).heap.size = w.heap.size + 1 + 1 := by simp
 have z3 : (((w.alloc (.cells #[.int .i64 x, .int .i64 y, .slice a l.length c] 76)).alloc (.cells #[.int .i64 0, .int .i64 0, .slice none 0 0] 57)).alloc (.cells #[.int .i64 x, .int .i64 y, .slice none 0 0] 57)).heap.size = w.heap.size + 1 + 1 + 1 := by simp
 rw [z1] at RR
 rw [z2] at RO
 have HR := Hid.mk' RR
 have HO := Hid.mk' RO
 have Z3 := Hid.mk' z3
 have HP := Hid.mk' RP
 clear ha B0 B1 RR RO RP z1 z2 z3
 generalize hW : ((w.alloc (.cells #[.int .i64 x, .int .i64 y, .slice a l.length c] 76)).alloc (.cells #[.int .i64 0, .int .i64 0, .slice none 0 0] 57)).alloc (.cells #[.int .i64 x, .int .i64 y, .slice none 0 0] 57) = W at *
 obtain ⟨p0, p1, p2_, p3⟩ := cells3 HP.out
 go_enter Tryz.func47, Tryz.ntmps47
 go_wp2_with fail
 clear hW
 refine KB.out.mono ?_
 rintro e w1 ⟨b, rfl, hb, hrow, hbl⟩
 have Ho := rowB HO.out hbl
 have Hr := rowB HR.out hbl
 obtain ⟨o0, o1, o2, o3⟩ := cells3 Ho
 obtain ⟨r0, r1, r2, r3_⟩ := cells3 Hr
 have fo := Ho.frozen 2
 have fr0 := Hr.frozen 0
 have fr1 := Hr.frozen 1
 have fr2 := Hr.frozen 2
 have KK : Hid (KeptIn (w.heap.size + 1) (w.heap.size + 1 + 1 + 1) w1 ((((w1.setCell ⟨w.heap.size + 1 + 1, 2, none⟩ (.slice (some ⟨b, 0, none⟩) l.length l.length)).setCell ⟨w.heap.size + 1, 0, none⟩ (.int .i64 x)).setCell ⟨w.heap.size + 1, 1, none⟩ (.int .i64 y)).setCell ⟨w.heap.size + 1, 2, none⟩ (.slice (some ⟨b, 0, none⟩) l.length l.length))) :=
  ((((KeptIn.refl _ _ w1).setCell (p := ⟨w.heap.size + 1 + 1, 2, none⟩) (by simp) (by simp) _).setCell (p := ⟨w.heap.size + 1, 0, none⟩) (by simp) (by simp) _).setCell (p := ⟨w.heap.size + 1, 1, none⟩) (by simp) (by simp) _).setCell (p := ⟨w.heap.size + 1, 2, none⟩) (by simp) (by simp) _
 have HW := Hid.mk' hrow
 have HL := Hid.mk' hbl
 have hb' : w.heap.size + 1 + 1 + 1 ≤ b := by have := Z3.out; omega
 have hwl : w.heap.size + 1 ≤ w1.heap.size := by have := Z3.out; have := hbl.size; omega
 clear hrow hbl Ho Hr KB HO HR hb
 go_wp2
 refine bodyPost_ret (v := .agg #[.int .i64 x, .int .i64 y, .slice (some ⟨b, 0, none⟩) l.length l.length]) (by simp [results, Tryz.results47, go_sem, *]) rfl ?_
 exact ⟨b, rfl, by omega, rowK HW.out KK.out (.inr hb'), (HB.out.trans (HL.out.mono HB.out.size)).trans (KK.out.below (by omega) (by omega))⟩
structure CR (w : World) (l : List CK) (k : Nat) (wr : World) : Prop where
 bl : Below w.heap.size w wr
 row : ∃ (f : Nat → Value) (β : Nat → Nat), wr.rowIs w.heap.size 57 (l.length * 3) f ∧ ∀ j, j < k → f (j * 3) = .int .i64 (ckK l j).pl ∧ f (j * 3 + 1) = .int .i64 (ckK l j).ct ∧ f (j * 3 + 2) = .slice (some ⟨β j, 0, none⟩) (ckK l j).hd.length (ckK l j).hd.length ∧ w.heap.size < β j ∧ wr.rowIs (β j) 5 (ckK l j).hd.length (bv (ckK l j).hd) ∧ ∀ i, i < j → β i < β j
theorem CR.start (w : World) (l : List CK) : CR w l 0 (w.alloc (.cells (madeCells #[.int .i64 0, .int .i64 0, .slice none 0 0] (l.length * 3)) 57)) := by
 refine ⟨(Below.refl _ _).alloc (Nat.le_refl _) _, fun i => r3 (.int .i64 0) (.int .i64 0) (.slice none 0 0) (i % 3), fun _ => 0, ?_, fun j hj => absurd hj (Nat.not_lt_zero _)⟩
 refine ⟨_, Deep.blk_alloc_new _ _, size_madeCells _ _, fun i hi => ?_⟩
 have h : i % 3 = 0 ∨ i % 3 = 1 ∨ i % 3 = 2 := by omega
 rcases h with h | h | h <;> simp [madeCells, hi, h, r3]
theorem CR.step {w wr w1 : World} {l : List CK} {k b : Nat} (h : CR w l k wr) (hb1 : Below wr.heap.size wr w1) (hb : wr.heap.size ≤ b) (hrow : w1.rowIs b 5 (ckK l k).hd.length (bv (ckK l k).hd)) :
  CR w l (k + 1) (((w1.setCell ⟨w.heap.size, k * 3, none⟩ (.int .i64 (ckK l k).pl)).setCell ⟨w.heap.size, k * 3 + 1, none⟩ (.int .i64 (ckK l k).ct)).setCell ⟨w.heap.size, k * 3 + 2, none⟩ (.slice (some ⟨b, 0, none⟩) (ckK l k).hd.length (ckK l k).hd.length)) := by
 obtain ⟨f, β, hf0, hj⟩ := h.row
 have hwl := hf0.lt
 have hf := rowB hf0 hb1
 have K := (((KeptIn.refl w.heap.size (w.heap.size + 1) w1).setCell (p := ⟨w.heap.size, k * 3, none⟩) (Nat.le_refl _) (Nat.lt_succ_self _) (.int .i64 (ckK l k).pl)).setCell (p := ⟨w.heap.size, k * 3 + 1, none⟩) (Nat.le_refl _) (Nat.lt_succ_self _) (.int .i64 (ckK l k).ct)).setCell (p := ⟨w.heap.size, k * 3 + 2, none⟩) (Nat.le_refl _) (Nat.lt_succ_self _) (.slice (some ⟨b, 0, none⟩) (ckK l k).hd.length (ckK l k).hd.length)
 refine ⟨(h.bl.trans (hb1.mono h.bl.size)).trans (K.below (Nat.le_refl _) (Nat.le_trans h.bl.size hb1.size)), _, fun j => if j = k then b else β j, ((hf.set (k * 3) _).set (k * 3 + 1) _).set (k * 3 + 2) _, fun j hk => ?_⟩
 by_cases e : j = k
 ·subst e
  dsimp only
  refine ⟨?_, ?_, ?_, ?_, ?_, fun i hi => ?_⟩
  ·rw [if_neg (by omega), if_neg (by omega), if_pos rfl]
  ·rw [if_neg (by omega), if_pos rfl]
  ·rw [if_pos rfl, if_pos rfl]
  ·rw [if_pos rfl]; omega
  ·rw [if_pos rfl]; exact rowK hrow K (.inr (by omega))
  ·rw [if_pos rfl, if_neg (by omega)]
   have := (hj i hi).2.2.2.2.1.lt
   omega
 ·obtain ⟨h1, h2, h3, h4, h5, h6⟩ := hj j (by omega)
  dsimp only
  refine ⟨?_, ?_, ?_, ?_, ?_, fun i hi => ?_⟩
  ·rw [if_neg (by omega), if_neg (by omega), if_neg (by omega)]; exact h1
  ·rw [if_neg (by omega), if_neg (by omega), if_neg (by omega)]; exact h2
  ·rw [if_neg (by omega), if_neg (by omega), if_neg (by omega), if_neg e]; exact h3
  ·rw [if_neg e]; exact h4
  ·rw [if_neg e]; exact rowK (rowB h5 hb1) K (.inr (by omega))
  ·rw [if_neg e, if_neg (by omega)]; exact h6 i hi
theorem toCheckS_any (a : Option Addr) (c : Nat) (l : List CK) (w : World) (ha : CsAt w a l) (hl : (l.length : Int) + csz l ≤ 1048576) :
  Calls Tryz.prog 26 #[.slice a l.length c] w fun e w' => e = .returned (.slice (some ⟨w.heap.size, 0, none⟩) l.length l.length) ∧ CR w l l.length w' := by
 have hmk := make_checks (P := Tryz.prog) 32 57 Tryz.underlying32 Tryz.info57 l.length (by omega)
 have HA := Hid.mk' ha
 clear ha
 go_enter Tryz.func26, Tryz.ntmps26
 go_wp2
 go_loopw [4] (fun i wr => ∃ k : Nat, k ≤ l.length ∧ i = .int .i64 k ∧ CR w l k wr) (fun i _ => l.length - (intOf i).toNat)
 case atStart => exact ⟨0, Nat.zero_le _, rfl, CR.start w l⟩
 case round =>
  obtain ⟨k, hk, rfl, hr⟩ := hrel
  have HR := Hid.mk' hr
  clear hr hmk
  by_cases hlt : k < l.length
  ·have ci : (k : Int) < (l.length : Int) := by omega
   rcases HA.out with ha | ⟨b, o, rfl, hbs, hc⟩
   ·exact absurd hlt (by rw [ha]; exact Nat.not_lt_zero _)
   obtain ⟨q1, q0, p, d, q2, q3⟩ := hc k hlt
   have h1 := (HR.out.bl.cell hbs).trans q1
   have h0 := (HR.out.bl.cell hbs).trans q0
   have h2 := (HR.out.bl.cell hbs).trans q2
   have st := csz_take l k hlt
   have sl := csz_le l (k + 1)
   have KA := Hid.mk' (toCheck_any (ckK l k).pl (ckK l k).ct p d (ckK l k).hd wr (q3.below HR.out.bl) (by omega))
   clear q0 q1 q2 q3 hc st sl
   go_wp2_with fail
   refine KA.out.mono ?_
   rintro e w1 ⟨g, rfl, hg, hrow, hbl⟩
   obtain ⟨f00, β00, hf00, _⟩ := HR.out.row
   have hf := rowB hf00 hbl
   have f0 := hf.frozen (k * 3)
   have f1 := hf.frozen (k * 3 + 1)
   have f2 := hf.frozen (k * 3 + 2)
   obtain ⟨v0, g0⟩ : ∃ v, w1.cell? ⟨w.heap.size, k * 3, none⟩ = some v := ⟨_, hf.cell (by omega)⟩
   obtain ⟨v1, g1⟩ : ∃ v, w1.cell? ⟨w.heap.size, k * 3 + 1, none⟩ = some v := ⟨_, hf.cell (by omega)⟩
   obtain ⟨v2, g2⟩ : ∃ v, w1.cell? ⟨w.heap.size, k * 3 + 2, none⟩ = some v := ⟨_, hf.cell (by omega)⟩
   have R1 := Hid.mk' (HR.out.step hbl hg hrow)
   clear hf hf00 hrow hbl KA h0 h1 h2 hg
   go_wp2
   go_roundw
   case rel => exact ⟨k + 1, by omega, by go_num, R1.out⟩
   case measure => simp [intOf]; omega
  ·have ci : ¬ (k : Int) < (l.length : Int) := by omega
   have e : k = l.length := by omega
   subst e
   go_wp2
   go_ret
   exact ⟨rfl, HR.out⟩
theorem eqCheck_any (x y : Int) (a b : Option Addr) (c d : Nat) (l : List Int) (w : World) (ha : BAt w a l) (hb : BAt w b l) (hl : (l.length : Int) ≤ 1048576) :
  Calls Tryz.prog 55 #[.agg #[.int .i64 x, .int .i64 y, .slice a l.length c], .agg #[.int .i64 x, .int .i64 y, .slice b l.length d]] w fun e w' => e = .returned (.bool true) ∧ Below w.heap.size w w' := by
 have B0 := ((Below.refl w.heap.size w).alloc (Nat.le_refl _) (.cells #[.int .i64 x, .int .i64 y, .slice a l.length c] 57)).alloc (by simp) (.cells #[.int .i64 x, .int .i64 y, .slice b l.length d] 57)
 have KB := Hid.mk' (eqByteS_any a b c d l _ (ha.below B0) (hb.below B0) hl)
 have HB := Hid.mk' B0
 clear ha hb B0
 go_enter Tryz.func55, Tryz.ntmps55
 go_wp2_with fail
 refine KB.out.mono ?_
 rintro e w1 ⟨rfl, hb⟩
 have HB := Hid.mk' (HB.out.trans (hb.mono HB.out.size))
 clear hb KB
 go_wp2
 go_ret
 exact ⟨rfl, HB.out⟩
theorem eqCheckS_any (a b : Option Addr) (c d : Nat) (l : List CK) (w : World) (ha : CsAt w a l) (hb : CsAt w b l) (hl : (l.length : Int) + csz l ≤ 1048576) :
  Calls Tryz.prog 30 #[.slice a l.length c, .slice b l.length d] w fun e w' => e = .returned (.bool true) ∧ Below w.heap.size w w' := by
 have HA := Hid.mk' ha
 have HB := Hid.mk' hb
 clear ha hb
 go_enter Tryz.func30, Tryz.ntmps30
 go_wp2
 go_loopw [5] (fun i wr => ∃ k : Nat, k ≤ l.length ∧ i = .int .i64 k ∧ Below w.heap.size w wr) (fun i _ => l.length - (intOf i).toNat)
 case atStart => exact ⟨0, Nat.zero_le _, rfl, Below.refl _ _⟩
 case round =>
  obtain ⟨k, hk, rfl, hbl⟩ := hrel
  have R2 := Hid.mk' hbl
  by_cases hlt : k < l.length
  ·have ci : (k : Int) < (l.length : Int) := by omega
   rcases HA.out.below hbl with ha | ⟨b1, o1, rfl, s1, hc1⟩
   ·exact absurd hlt (by rw [ha]; exact Nat.not_lt_zero _)
   rcases HB.out.below hbl with hb | ⟨b2, o2, rfl, s2, hc2⟩
   ·exact absurd hlt (by rw [hb]; exact Nat.not_lt_zero _)
   obtain ⟨h1, h7, p1, d1, h2, h3⟩ := hc1 k hlt
   obtain ⟨h4, h8, p2_, d2, h5, h6⟩ := hc2 k hlt
   have st := csz_take l k hlt
   have sl := csz_le l (k + 1)
   have KE : Hid (Calls Tryz.prog 55 #[.agg #[.int .i64 (ckK l k).pl, .int .i64 (ckK l k).ct, .slice p1 (ckK l k).hd.length d1], .agg #[.int .i64 (ckK l k).pl, .int .i64 (ckK l k).ct, .slice p2_ (ckK l k).hd.length d2]] wr.drew fun e w' => e = .returned (.bool true) ∧ Below wr.drew.heap.size wr.drew w') := eqCheck_any _ _ _ _ _ _ _ _ (h3.below (Below.refl _ _).drew) (h6.below (Below.refl _ _).drew) (by omega)
   clear hbl hc1 hc2 h3 h6 st sl
   go_wp2
   go_region_held3 (fun w' => w'.cell? ⟨b1, o1 + k * 3, none⟩ = some (.int .i64 (ckK l k).pl) ∧ w'.cell? ⟨b1, o1 + k * 3 + 1, none⟩ = some (.int .i64 (ckK l k).ct) ∧ w'.cell? ⟨b1, o1 + k * 3 + 2, none⟩ = some (.slice p1 (ckK l k).hd.length d1) ∧ w'.cell? ⟨b2, o2 + k * 3, none⟩ = some (.int .i64 (ckK l k).pl) ∧ w'.cell? ⟨b2, o2 + k * 3 + 1, none⟩ = some (.int .i64 (ckK l k).ct) ∧ w'.cell? ⟨b2, o2 + k * 3 + 2, none⟩ = some (.slice p2_ (ckK l k).hd.length d2)) (simp [*])
    ((go_at_call 55; refine KE.out.mono ?_; rintro e w1 ⟨rfl, hb1⟩; replace hb1 := undrew hb1; obtain ⟨hx1, hx2⟩ := bcell hb1))
   go_wp2
   go_roundw
   case rel => exact ⟨k + 1, by omega, by go_num, R2.out.trans (hb1.mono R2.out.size)⟩
   case measure => simp [intOf]; omega
  ·have ci : ¬ (k : Int) < (l.length : Int) := by omega
   go_wp2
   go_ret
   exact ⟨rfl, R2.out⟩
structure ME where
 dt : List Int
 st : Int
 tk : List TK
 hd : List Int
 cs : List CK
def MAt (w : World) (a t u c : Option Addr) (m : ME) : Prop := BAt w a m.dt ∧ TsAt w t m.tk ∧ BAt w u m.hd ∧ CsAt w c m.cs
theorem MAt.below {w w' : World} {a t u c : Option Addr} {m : ME} (x : MAt w a t u c m) (hb : Below w.heap.size w w') : MAt w' a t u c m :=
 ⟨x.1.below hb, x.2.1.below hb, x.2.2.1.below hb, x.2.2.2.below hb⟩
def msz (m : ME) : Nat := m.dt.length + m.tk.length + tssz m.tk + m.hd.length + m.cs.length + csz m.cs
def WideM (m : ME) : Prop := (m.dt.length : Int) ≤ 9223372036854775807 ∧ WideT m.tk ∧ (m.tk.length : Int) ≤ 9223372036854775807 ∧ (m.hd.length : Int) ≤ 9223372036854775807 ∧ WideC m.cs ∧ (m.cs.length : Int) ≤ 9223372036854775807
theorem szMemo_any (m : ME) (a t u c : Option Addr) (ca ct ch cc : Nat) (z : Int) (w : World) (hm : MAt w a t u c m) (hw : WideM m) (h0 : 0 ≤ z) (h1 : z ≤ 1048576) :
  Calls Tryz.prog 5 #[.agg #[.slice a m.dt.length ca, .int .i64 m.st, .slice t m.tk.length ct, .slice u m.hd.length ch, .slice c m.cs.length cc], .int .i64 z] w fun e w' => e = .returned (.int .i64 (if z < (msz m : Int) then -1 else z - msz m)) ∧ Below w.heap.size w w' := by
 have N0 := below_new w (.cells #[.slice a m.dt.length ca, .int .i64 m.st, .slice t m.tk.length ct, .slice u m.hd.length ch, .slice c m.cs.length cc] 26)
 have HP := Hid.mk' (row5 w 26 (.slice a m.dt.length ca) (.int .i64 m.st) (.slice t m.tk.length ct) (.slice u m.hd.length ch) (.slice c m.cs.length cc))
 have HM := Hid.mk' (hm.below N0)
 have HB := Hid.mk' N0
 have HW := Hid.mk' hw
 obtain ⟨w1, _, w3, w4, _, w6⟩ := hw
 have MS : (msz m : Int) = m.dt.length + m.tk.length + tssz m.tk + m.hd.length + m.cs.length + csz m.cs := by unfold msz; omega
 have MSH := Hid.mk' MS
 clear N0 hm
 by_cases g1 : z < (m.dt.length : Int)
 ·rw [if_pos (by omega)]
  clear MS
  go_enter Tryz.func5, Tryz.ntmps5
  go_wp2_with (go_at_call 20; refine (szByteS_any _ _ _ _ _ (by omega) (by omega) (by omega)).mono ?_; rintro e w' ⟨rfl, rfl⟩)
  go_ret
  exact ⟨rfl, HB.out⟩
 have gd : ¬ (z - (m.dt.length : Int) < 0) := by omega
 have KT := szTokenS_any t ct m.tk (z - (m.dt.length : Int)) _ HM.out.2.1 HW.out.2.1 (by omega) (by omega) w3
 by_cases g2 : z - (m.dt.length : Int) < (m.tk.length : Int) + tssz m.tk
 ·rw [if_pos g2] at KT
  rw [if_pos (by omega)]
  have KT := Hid.mk' KT
  clear MS
  go_enter Tryz.func5, Tryz.ntmps5
  go_wp2_with (first | (go_at_call 20; refine (szByteS_any _ _ _ _ _ (by omega) (by omega) (by omega)).mono ?_; rintro e w' ⟨rfl, rfl⟩) | fail)
  refine KT.out.mono ?_
  rintro e v1 ⟨rfl, hb⟩
  have HB := Hid.mk' (HB.out.trans (hb.mono HB.out.size))
  clear hb KT
  go_wp2
  go_ret
  exact ⟨rfl, HB.out⟩
 rw [if_neg g2] at KT
 have KT := Hid.mk' KT
 generalize hW : w.alloc (.cells #[.slice a m.dt.length ca, .int .i64 m.st, .slice t m.tk.length ct, .slice u m.hd.length ch, .slice c m.cs.length cc] 26) = W at *
 have c0 : W.cell? ⟨w.heap.size, 0, none⟩ = some (.slice a m.dt.length ca) := (cells5 HP.out).1
 have c2 : W.cell? ⟨w.heap.size, 2, none⟩ = some (.slice t m.tk.length ct) := (cells5 HP.out).2.2.1
 have ge : ¬ (z - (m.dt.length : Int) - m.tk.length - tssz m.tk < 0) := by omega
 generalize hIF : (if z < (msz m : Int) then (-1 : Int) else z - msz m) = R at *
 have HIF := Hid.mk' hIF
 clear hIF MS
 go_enter Tryz.func5, Tryz.ntmps5
 go_wp2_with (first | (go_at_call 20; refine (szByteS_any _ _ _ _ _ (by omega) (by omega) (by omega)).mono ?_; rintro e w' ⟨rfl, rfl⟩) | fail)
 clear hW c0 c2
 refine KT.out.mono ?_
 rintro e v1 ⟨rfl, hb⟩
 have HP := Hid.mk' (rowB HP.out hb)
 have HM := Hid.mk' (HM.out.below hb)
 have HB := Hid.mk' (HB.out.trans (hb.mono HB.out.size))
 clear hb KT
 have c3 : v1.cell? ⟨w.heap.size, 3, none⟩ = some (.slice u m.hd.length ch) := (cells5 HP.out).2.2.2.1
 by_cases g3 : z - (m.dt.length : Int) - m.tk.length - tssz m.tk < (m.hd.length : Int)
 ·go_wp2_with (go_at_call 20; refine (szByteS_any _ _ _ _ _ (by omega) (by omega) (by omega)).mono ?_; rintro e w' ⟨rfl, rfl⟩)
  go_ret
  refine ⟨?_, HB.out⟩
  rw [← HIF.out, if_pos (by have := MSH.out; omega)]; rfl
 have gf : ¬ (z - (m.dt.length : Int) - m.tk.length - tssz m.tk - m.hd.length < 0) := by omega
 have KC := szCheckS_any c cc m.cs (z - (m.dt.length : Int) - m.tk.length - tssz m.tk - m.hd.length) v1 HM.out.2.2.2 HW.out.2.2.2.2.1 (by omega) (by omega) w6
 have c4 : v1.cell? ⟨w.heap.size, 4, none⟩ = some (.slice c m.cs.length cc) := (cells5 HP.out).2.2.2.2.1
 by_cases g4 : z - (m.dt.length : Int) - m.tk.length - tssz m.tk - m.hd.length < (m.cs.length : Int) + csz m.cs
 ·rw [if_pos g4] at KC
  have KC := Hid.mk' KC
  go_wp2_with (first | (go_at_call 20; refine (szByteS_any _ _ _ _ _ (by omega) (by omega) (by omega)).mono ?_; rintro e w' ⟨rfl, rfl⟩) | fail)
  refine KC.out.mono ?_
  rintro e v2 ⟨rfl, hb⟩
  have HB := Hid.mk' (HB.out.trans (hb.mono HB.out.size))
  clear hb KC
  go_wp2
  go_ret
  refine ⟨?_, HB.out⟩
  rw [← HIF.out, if_pos (by have := MSH.out; omega)]; rfl
 rw [if_neg g4] at KC
 have KC := Hid.mk' KC
 have gg : ¬ (z - (m.dt.length : Int) - m.tk.length - tssz m.tk - m.hd.length - m.cs.length - csz m.cs < 0) := by omega
 go_wp2_with (first | (go_at_call 20; refine (szByteS_any _ _ _ _ _ (by omega) (by omega) (by omega)).mono ?_; rintro e w' ⟨rfl, rfl⟩) | fail)
 refine KC.out.mono ?_
 rintro e v2 ⟨rfl, hb⟩
 have HB := Hid.mk' (HB.out.trans (hb.mono HB.out.size))
 clear hb KC
 go_wp2
 go_ret
 refine ⟨?_, HB.out⟩
 rw [← HIF.out, if_neg (by have := MSH.out; omega)]
 have := MSH.out
 first | rfl | (congr 2; omega) | (congr 3; omega) | (congr 2; simp; omega)
structure MB (w : World) (p0 p1 p2 p3 p4 o0 o1 o2 o3 o4 : Value) (wi : World) : Prop where
 bl : Below w.heap.size w wi
 pr : wi.rowIs w.heap.size 26 5 (r5 p0 p1 p2 p3 p4)
 rr : wi.rowIs (w.heap.size + 1) 34 5 (r5 (.slice none 0 0) (.int .i64 0) (.slice none 0 0) (.slice none 0 0) (.slice none 0 0))
 ro : wi.rowIs (w.heap.size + 1 + 1) 34 5 (r5 o0 o1 o2 o3 o4)
theorem MB.below {w wi wj : World} {p0 p1 p2 p3 p4 o0 o1 o2 o3 o4 : Value} (x : MB w p0 p1 p2 p3 p4 o0 o1 o2 o3 o4 wi) (hb : Below wi.heap.size wi wj) : MB w p0 p1 p2 p3 p4 o0 o1 o2 o3 o4 wj :=
 ⟨x.bl.trans (hb.mono x.bl.size), rowB x.pr hb, rowB x.rr hb, rowB x.ro hb⟩
theorem MB.start (w : World) (p0 p1 p2 p3 p4 : Value) : MB w p0 p1 p2 p3 p4 (.slice none 0 0) (.int .i64 0) (.slice none 0 0) (.slice none 0 0) (.slice none 0 0) (((w.alloc (.cells #[p0, p1, p2, p3, p4] 26)).alloc (.cells #[.slice none 0 0, .int .i64 0, .slice none 0 0, .slice none 0 0, .slice none 0 0] 34)).alloc (.cells #[.slice none 0 0, .int .i64 0, .slice none 0 0, .slice none 0 0, .slice none 0 0] 34)) := by
 have R1 := (row5 (w.alloc (.cells #[p0, p1, p2, p3, p4] 26)) 34 (.slice none 0 0) (.int .i64 0) (.slice none 0 0) (.slice none 0 0) (.slice none 0 0)).alloc (.cells #[.slice none 0 0, .int .i64 0, .slice none 0 0, .slice none 0 0, .slice none 0 0] 34)
 have R2 := row5 ((w.alloc (.cells #[p0, p1, p2, p3, p4] 26)).alloc (.cells #[.slice none 0 0, .int .i64 0, .slice none 0 0, .slice none 0 0, .slice none 0 0] 34)) 34 (.slice none 0 0) (.int .i64 0) (.slice none 0 0) (.slice none 0 0) (.slice none 0 0)
 rw [show (w.alloc (.cells #[p0, p1, p2, p3, p4] 26)).heap.size = w.heap.size + 1 from by simp] at R1
 rw [show ((w.alloc (.cells #[p0, p1, p2, p3, p4] 26)).alloc (.cells #[.slice none 0 0, .int .i64 0, .slice none 0 0, .slice none 0 0, .slice none 0 0] 34)).heap.size = w.heap.size + 1 + 1 from by simp] at R2
 exact ⟨(((Below.refl w.heap.size w).alloc (Nat.le_refl _) _).alloc (by simp) _).alloc (by simp; omega) _, ((row5 w 26 p0 p1 p2 p3 p4).alloc _).alloc _, R1, R2⟩
theorem MB.set0 {w wi : World} {p0 p1 p2 p3 p4 o0 o1 o2 o3 o4 : Value} (x : MB w p0 p1 p2 p3 p4 o0 o1 o2 o3 o4 wi) (v : Value) : MB w p0 p1 p2 p3 p4 v o1 o2 o3 o4 (wi.setCell ⟨w.heap.size + 1 + 1, 0, none⟩ v) := by
 have K := (KeptIn.refl (w.heap.size + 1 + 1) (w.heap.size + 1 + 1 + 1) wi).setCell (p := ⟨w.heap.size + 1 + 1, 0, none⟩) (by simp) (by simp) v
 have := x.ro.lt
 exact ⟨x.bl.trans (K.below (by omega) (by omega)), rowK x.pr K (.inl (by omega)), rowK x.rr K (.inl (by omega)), (x.ro.set 0 v).congr (fun j hj => by
  have h : j = 0 ∨ j = 1 ∨ j = 2 ∨ j = 3 ∨ j = 4 := by omega
  rcases h with rfl | rfl | rfl | rfl | rfl <;> simp [r5])⟩
theorem MB.set1 {w wi : World} {p0 p1 p2 p3 p4 o0 o1 o2 o3 o4 : Value} (x : MB w p0 p1 p2 p3 p4 o0 o1 o2 o3 o4 wi) (v : Value) : MB w p0 p1 p2 p3 p4 o0 v o2 o3 o4 (wi.setCell ⟨w.heap.size + 1 + 1, 1, none⟩ v) := by
 have K := (KeptIn.refl (w.heap.size + 1 + 1) (w.heap.size + 1 + 1 + 1) wi).setCell (p := ⟨w.heap.size + 1 + 1, 1, none⟩) (by simp) (by simp) v
 have := x.ro.lt
 exact ⟨x.bl.trans (K.below (by omega) (by omega)), rowK x.pr K (.inl (by omega)), rowK x.rr K (.inl (by omega)), (x.ro.set 1 v).congr (fun j hj => by
  have h : j = 0 ∨ j = 1 ∨ j = 2 ∨ j = 3 ∨ j = 4 := by omega
  rcases h with rfl | rfl | rfl | rfl | rfl <;> simp [r5])⟩
theorem MB.set2 {w wi : World} {p0 p1 p2 p3 p4 o0 o1 o2 o3 o4 : Value} (x : MB w p0 p1 p2 p3 p4 o0 o1 o2 o3 o4 wi) (v : Value) : MB w p0 p1 p2 p3 p4 o0 o1 v o3 o4 (wi.setCell ⟨w.heap.size + 1 + 1, 2, none⟩ v) := by
 have K := (KeptIn.refl (w.heap.size + 1 + 1) (w.heap.size + 1 + 1 + 1) wi).setCell (p := ⟨w.heap.size + 1 + 1, 2, none⟩) (by simp) (by simp) v
 have := x.ro.lt
 exact ⟨x.bl.trans (K.below (by omega) (by omega)), rowK x.pr K (.inl (by omega)), rowK x.rr K (.inl (by omega)), (x.ro.set 2 v).congr (fun j hj => by
  have h : j = 0 ∨ j = 1 ∨ j = 2 ∨ j = 3 ∨ j = 4 := by omega
  rcases h with rfl | rfl | rfl | rfl | rfl <;> simp [r5])⟩
theorem MB.set3 {w wi : World} {p0 p1 p2 p3 p4 o0 o1 o2 o3 o4 : Value} (x : MB w p0 p1 p2 p3 p4 o0 o1 o2 o3 o4 wi) (v : Value) : MB w p0 p1 p2 p3 p4 o0 o1 o2 v o4 (wi.setCell ⟨w.heap.size + 1 + 1, 3, none⟩ v) := by
 have K := (KeptIn.refl (w.heap.size + 1 + 1) (w.heap.size + 1 + 1 + 1) wi).setCell (p := ⟨w.heap.size + 1 + 1, 3, none⟩) (by simp) (by simp) v
 have := x.ro.lt
 exact ⟨x.bl.trans (K.below (by omega) (by omega)), rowK x.pr K (.inl (by omega)), rowK x.rr K (.inl (by omega)), (x.ro.set 3 v).congr (fun j hj => by
  have h : j = 0 ∨ j = 1 ∨ j = 2 ∨ j = 3 ∨ j = 4 := by omega
  rcases h with rfl | rfl | rfl | rfl | rfl <;> simp [r5])⟩
def CX (g : Nat) (l : List CK) (w : World) : Prop := ∃ (f : Nat → Value) (β : Nat → Nat), w.rowIs g 57 (l.length * 3) f ∧ ∀ j, j < l.length → f (j * 3) = .int .i64 (ckK l j).pl ∧ f (j * 3 + 1) = .int .i64 (ckK l j).ct ∧ f (j * 3 + 2) = .slice (some ⟨β j, 0, none⟩) (ckK l j).hd.length (ckK l j).hd.length ∧ g < β j ∧ w.rowIs (β j) 5 (ckK l j).hd.length (bv (ckK l j).hd) ∧ ∀ i, i < j → β i < β j
theorem CR.cx {w wr : World} {l : List CK} (h : CR w l l.length wr) : CX w.heap.size l wr := h.row
theorem CX.keep {g : Nat} {l : List CK} {w w' : World} (h : CX g l w) (hk : ∀ q, g ≤ q → q < w.heap.size → w'.heap[q]? = w.heap[q]?) : CX g l w' := by
 obtain ⟨f, β, hf, hj⟩ := h
 refine ⟨f, β, hf.of_block (hk g (Nat.le_refl _) hf.lt), fun j hl => ?_⟩
 obtain ⟨h1, h2, h3, h4, h5, h6⟩ := hj j hl
 exact ⟨h1, h2, h3, h4, h5.of_block (hk _ (by omega) h5.lt), h6⟩
theorem CX.at {g : Nat} {l : List CK} {w : World} (h : CX g l w) : CsAt w (some ⟨g, 0, none⟩) l := by
 obtain ⟨f, β, hf, hj⟩ := h
 refine .inr ⟨_, _, rfl, hf.lt, fun k hk => ?_⟩
 obtain ⟨h1, h2, h3, h4, h5, h6⟩ := hj k hk
 have c := fun i (hi : i < 3) => hf.cell (show k * 3 + i < l.length * 3 by omega)
 refine ⟨by rw [Nat.zero_add]; exact (c 0 (by omega)).trans (by rw [Nat.add_zero, h1]), by rw [Nat.zero_add, c 1 (by omega), h2], _, _, by rw [Nat.zero_add, c 2 (by omega), h3], .of_row h5⟩
theorem TR.at_keep {w wr w' : World} {l : List TK} (h : TR w l l.length wr) (hk : ∀ q, w.heap.size ≤ q → q < wr.heap.size → w'.heap[q]? = wr.heap[q]?) : TsAt w' (some ⟨w.heap.size, 0, none⟩) l := by
 obtain ⟨f, hf, hj⟩ := h.row
 have hf' := hf.of_block (hk _ (Nat.le_refl _) hf.lt)
 refine .inr ⟨_, _, rfl, hf'.lt, fun k hl => ?_⟩
 obtain ⟨h1, h2, h3, ⟨g, h4, h5, fa, h6, h7⟩, h8⟩ := hj k hl
 have ao : AO g (tkK l k).at_ w' := ⟨fa, h6.of_block (hk _ (by omega) h6.lt), fun i hi => by
  obtain ⟨e1, b, e2, e3, e4⟩ := h7 i hi
  exact ⟨e1, b, e2, e3, e4.of_block (hk _ (by omega) e4.lt)⟩⟩
 have c := fun i (hi : i < 5) => hf'.cell (show k * 5 + i < l.length * 5 by omega)
 refine ⟨by rw [Nat.zero_add]; exact (c 0 (by omega)).trans (by rw [Nat.add_zero, h1]), by rw [Nat.zero_add, c 1 (by omega), h2], by rw [Nat.zero_add, c 2 (by omega), h3], ⟨_, _, by rw [Nat.zero_add, c 3 (by omega), h4], ao.at⟩, by rw [Nat.zero_add, c 4 (by omega), h8]⟩
structure MX (T : World → World → Prop) (lo gd gt gh gc : Nat) (m : ME) (w : World) : Prop where
 d : w.rowIs gd 5 m.dt.length (bv m.dt)
 t : ∃ wa wb, wa.heap.size = gt ∧ T wa wb ∧ wb.heap.size ≤ gh ∧ ∀ q, gt ≤ q → q < wb.heap.size → w.heap[q]? = wb.heap[q]?
 h : w.rowIs gh 5 m.hd.length (bv m.hd)
 c : CX gc m.cs w
 o1 : lo ≤ gd
 o2 : gd < gt
 o3 : gt ≤ gh
 o4 : gh < gc
theorem MX.keep {T : World → World → Prop} {lo gd gt gh gc : Nat} {m : ME} {w w' : World} (x : MX T lo gd gt gh gc m w) (hk : ∀ q, lo ≤ q → q < w.heap.size → w'.heap[q]? = w.heap[q]?) : MX T lo gd gt gh gc m w' := by
 have k0 := x.d.lt
 have k1 := x.h.lt
 have o1 := x.o1
 have o2 := x.o2
 have o3 := x.o3
 have o4 := x.o4
 refine ⟨x.d.of_block (hk _ o1 k0), ?_, x.h.of_block (hk _ (by omega) k1), x.c.keep (fun q a b => hk q (by omega) b), o1, o2, o3, o4⟩
 obtain ⟨wa, wb, e1, h1, h2, h4⟩ := x.t
 exact ⟨wa, wb, e1, h1, h2, fun q a b => (hk q (by omega) (by omega)).trans (h4 q a b)⟩
theorem MX.below {T : World → World → Prop} {lo gd gt gh gc : Nat} {m : ME} {w w' : World} (x : MX T lo gd gt gh gc m w) (hb : Below w.heap.size w w') : MX T lo gd gt gh gc m w' :=
 x.keep (fun q _ h => hb.block q h)
theorem MX.at {lo gd gt gh gc : Nat} {m : ME} {w : World} (x : MX (fun wa wb => TR wa m.tk m.tk.length wb) lo gd gt gh gc m w) : MAt w (some ⟨gd, 0, none⟩) (some ⟨gt, 0, none⟩) (some ⟨gh, 0, none⟩) (some ⟨gc, 0, none⟩) m := by
 obtain ⟨wa, wb, e1, h1, h2, h4⟩ := x.t
 subst e1
 exact ⟨.of_row x.d, h1.at_keep h4, .of_row x.h, x.c.at⟩
theorem toMemo_gen (T : World → World → Prop) (m : ME) (a t u c : Option Addr) (ca ct ch cc : Nat) (w : World) (hm : MAt w a t u c m) (hl : (msz m : Int) ≤ 1048576)
  (hT : ∀ v, TsAt v t m.tk → Calls Tryz.prog 25 #[.slice t m.tk.length ct] v fun e v' => e = .returned (.slice (some ⟨v.heap.size, 0, none⟩) m.tk.length m.tk.length) ∧ T v v' ∧ Below v.heap.size v v') :
  Calls Tryz.prog 7 #[.agg #[.slice a m.dt.length ca, .int .i64 m.st, .slice t m.tk.length ct, .slice u m.hd.length ch, .slice c m.cs.length cc]] w fun e w' => ∃ gd gt gh gc, e = .returned (.agg #[.slice (some ⟨gd, 0, none⟩) m.dt.length m.dt.length, .int .i64 m.st, .slice (some ⟨gt, 0, none⟩) m.tk.length m.tk.length, .slice (some ⟨gh, 0, none⟩) m.hd.length m.hd.length, .slice (some ⟨gc, 0, none⟩) m.cs.length m.cs.length]) ∧ MX T w.heap.size gd gt gh gc m w' ∧ Below w.heap.size w w' := by
 have MS : (msz m : Int) = m.dt.length + m.tk.length + tssz m.tk + m.hd.length + m.cs.length + csz m.cs := by unfold msz; omega
 have s1 : (m.dt.length : Int) ≤ 1048576 := by omega
 have s2 : (m.hd.length : Int) ≤ 1048576 := by omega
 have s3 : (m.cs.length : Int) + csz m.cs ≤ 1048576 := by omega
 have HT := Hid.mk' hT
 clear MS hl hT
 have M0 := MB.start w (.slice a m.dt.length ca) (.int .i64 m.st) (.slice t m.tk.length ct) (.slice u m.hd.length ch) (.slice c m.cs.length cc)
 have HM := Hid.mk' hm
 have H0 := Hid.mk' M0
 clear M0 hm
 generalize hW : ((w.alloc (.cells #[.slice a m.dt.length ca, .int .i64 m.st, .slice t m.tk.length ct, .slice u m.hd.length ch, .slice c m.cs.length cc] 26)).alloc (.cells #[.slice none 0 0, .int .i64 0, .slice none 0 0, .slice none 0 0, .slice none 0 0] 34)).alloc (.cells #[.slice none 0 0, .int .i64 0, .slice none 0 0, .slice none 0 0, .slice none 0 0] 34) = W at *
 have KB := Hid.mk' (toByteS_any a ca m.dt W (HM.out.below H0.out.bl).1 s1)
 have p0 : W.cell? ⟨w.heap.size, 0, none⟩ = some (.slice a m.dt.length ca) := (cells5 H0.out.pr).1
 go_enter Tryz.func7, Tryz.ntmps7
 go_wp2_with fail
 clear hW p0
 refine KB.out.mono ?_
 rintro e w1 ⟨gd, rfl, hgd, hrd, hb1⟩
 have M1 := H0.out.below hb1
 have z0 := H0.out.ro.lt
 have z1 := hrd.lt
 have o0 : w1.cell? ⟨w.heap.size + 1 + 1, 0, none⟩ = some (.slice none 0 0) := (cells5 M1.ro).1
 have o1 : w1.cell? ⟨w.heap.size + 1 + 1, 1, none⟩ = some (.int .i64 0) := (cells5 M1.ro).2.1
 have fo0 := M1.ro.frozen 0
 have fo1 := M1.ro.frozen 1
 have p1 : w1.cell? ⟨w.heap.size, 1, none⟩ = some (.int .i64 m.st) := (cells5 M1.pr).2.1
 have M2 := (M1.set0 (.slice (some ⟨gd, 0, none⟩) m.dt.length m.dt.length)).set1 (.int .i64 m.st)
 have K2 := ((KeptIn.refl (w.heap.size + 1 + 1) (w.heap.size + 1 + 1 + 1) w1).setCell (p := ⟨w.heap.size + 1 + 1, 0, none⟩) (by simp) (by simp) (.slice (some ⟨gd, 0, none⟩) m.dt.length m.dt.length)).setCell (p := ⟨w.heap.size + 1 + 1, 1, none⟩) (by simp) (by simp) (.int .i64 m.st)
 have RD := Hid.mk' (rowK hrd K2 (.inr (by omega)))
 have KT := Hid.mk' (HT.out _ (HM.out.below M2.bl).2.1)
 have HM2 := Hid.mk' M2
 have Z1 : Hid (gd < ((w1.setCell ⟨w.heap.size + 1 + 1, 0, none⟩ (.slice (some ⟨gd, 0, none⟩) m.dt.length m.dt.length)).setCell ⟨w.heap.size + 1 + 1, 1, none⟩ (.int .i64 m.st)).heap.size) := Hid.mk' RD.out.lt
 have ZD : Hid (w.heap.size + 1 + 1 < gd) := Hid.mk' (by omega)
 have p2_ : ((w1.setCell ⟨w.heap.size + 1 + 1, 0, none⟩ (.slice (some ⟨gd, 0, none⟩) m.dt.length m.dt.length)).setCell ⟨w.heap.size + 1 + 1, 1, none⟩ (.int .i64 m.st)).cell? ⟨w.heap.size, 2, none⟩ = some (.slice t m.tk.length ct) := (cells5 M2.pr).2.2.1
 clear hrd hb1 M1 M2 K2 KB H0 hgd z0 z1 HT
 generalize hV1 : (w1.setCell ⟨w.heap.size + 1 + 1, 0, none⟩ (.slice (some ⟨gd, 0, none⟩) m.dt.length m.dt.length)).setCell ⟨w.heap.size + 1 + 1, 1, none⟩ (.int .i64 m.st) = V1 at *
 go_wp2_with fail
 clear hV1 o0 o1 fo0 fo1 p1 p2_
 refine KT.out.mono ?_
 rintro e w2 ⟨rfl, hTT, hb2⟩
 have M3 := HM2.out.below hb2
 have o2 : w2.cell? ⟨w.heap.size + 1 + 1, 2, none⟩ = some (.slice none 0 0) := (cells5 M3.ro).2.2.1
 have fo2 := M3.ro.frozen 2
 have M4 := M3.set2 (.slice (some ⟨V1.heap.size, 0, none⟩) m.tk.length m.tk.length)
 have z0 := HM2.out.ro.lt
 have zg := Z1.out
 have zd := ZD.out
 have K4 := (KeptIn.refl (w.heap.size + 1 + 1) (w.heap.size + 1 + 1 + 1) w2).setCell (p := ⟨w.heap.size + 1 + 1, 2, none⟩) (by simp) (by simp) (.slice (some ⟨V1.heap.size, 0, none⟩) m.tk.length m.tk.length)
 have RD := Hid.mk' (rowK (rowB RD.out hb2) K4 (.inr (by omega)))
 have KH := Hid.mk' (toByteS_any u ch m.hd _ (HM.out.below M4.bl).2.2.1 s2)
 have HM4 := Hid.mk' M4
 have BT : Hid (Below V1.heap.size V1 (w2.setCell ⟨w.heap.size + 1 + 1, 2, none⟩ (.slice (some ⟨V1.heap.size, 0, none⟩) m.tk.length m.tk.length)) ∨ True) := Hid.mk' (.inr trivial)
 have ST : Hid (∀ q, V1.heap.size ≤ q → q < w2.heap.size → (w2.setCell ⟨w.heap.size + 1 + 1, 2, none⟩ (.slice (some ⟨V1.heap.size, 0, none⟩) m.tk.length m.tk.length)).heap[q]? = w2.heap[q]?) := Hid.mk' (fun q a _ => Deep.blk_setCell_other _ _ _ _ (by show q ≠ w.heap.size + 1 + 1; omega))
 have SZ : Hid ((w2.setCell ⟨w.heap.size + 1 + 1, 2, none⟩ (.slice (some ⟨V1.heap.size, 0, none⟩) m.tk.length m.tk.length)).heap.size = w2.heap.size) := Hid.mk' (by simp [World.setCell])
 have S2 : Hid (V1.heap.size ≤ w2.heap.size) := Hid.mk' hb2.size
 have TT := Hid.mk' hTT
 have p3 : (w2.setCell ⟨w.heap.size + 1 + 1, 2, none⟩ (.slice (some ⟨V1.heap.size, 0, none⟩) m.tk.length m.tk.length)).cell? ⟨w.heap.size, 3, none⟩ = some (.slice u m.hd.length ch) := (cells5 M4.pr).2.2.2.1
 clear M3 M4 K4 KT hb2 hTT z0 zg zd BT
 generalize hV2 : w2.setCell ⟨w.heap.size + 1 + 1, 2, none⟩ (.slice (some ⟨V1.heap.size, 0, none⟩) m.tk.length m.tk.length) = V2 at *
 go_wp2_with fail
 clear hV2 o2 fo2 p3
 refine KH.out.mono ?_
 rintro e w3 ⟨gh, rfl, hgh, hrh, hb3⟩
 have M5 := HM4.out.below hb3
 have o3 : w3.cell? ⟨w.heap.size + 1 + 1, 3, none⟩ = some (.slice none 0 0) := (cells5 M5.ro).2.2.2.1
 have fo3 := M5.ro.frozen 3
 have M6 := M5.set3 (.slice (some ⟨gh, 0, none⟩) m.hd.length m.hd.length)
 have z0 := HM4.out.ro.lt
 have zg := Z1.out
 have zd := ZD.out
 have sz := SZ.out
 have s2' := S2.out
 have rl := RD.out.lt
 have hl3 := hrh.lt
 have K6 := (KeptIn.refl (w.heap.size + 1 + 1) (w.heap.size + 1 + 1 + 1) w3).setCell (p := ⟨w.heap.size + 1 + 1, 3, none⟩) (by simp) (by simp) (.slice (some ⟨gh, 0, none⟩) m.hd.length m.hd.length)
 have RD := Hid.mk' (rowK (rowB RD.out hb3) K6 (.inr (by omega)))
 have RH := Hid.mk' (rowK hrh K6 (.inr (by omega)))
 have GH : Hid (w2.heap.size ≤ gh) := Hid.mk' (by omega)
 have ST : Hid (∀ q, V1.heap.size ≤ q → q < w2.heap.size → (w3.setCell ⟨w.heap.size + 1 + 1, 3, none⟩ (.slice (some ⟨gh, 0, none⟩) m.hd.length m.hd.length)).heap[q]? = w2.heap[q]?) := Hid.mk' (fun q a b => (Deep.blk_setCell_other _ _ _ _ (by show q ≠ w.heap.size + 1 + 1; omega)).trans ((hb3.block q (by omega)).trans (ST.out q a b)))
 have KC := Hid.mk' (toCheckS_any c cc m.cs _ (HM.out.below M6.bl).2.2.2 s3)
 have HM6 := Hid.mk' M6
 have p4 : (w3.setCell ⟨w.heap.size + 1 + 1, 3, none⟩ (.slice (some ⟨gh, 0, none⟩) m.hd.length m.hd.length)).cell? ⟨w.heap.size, 4, none⟩ = some (.slice c m.cs.length cc) := (cells5 M6.pr).2.2.2.2.1
 have L3 : Hid (gh < (w3.setCell ⟨w.heap.size + 1 + 1, 3, none⟩ (.slice (some ⟨gh, 0, none⟩) m.hd.length m.hd.length)).heap.size) := Hid.mk' RH.out.lt
 clear M5 M6 K6 KH hb3 hgh hrh z0 zg zd sz s2' rl hl3 SZ
 generalize hV3 : w3.setCell ⟨w.heap.size + 1 + 1, 3, none⟩ (.slice (some ⟨gh, 0, none⟩) m.hd.length m.hd.length) = V3 at *
 go_wp2_with fail
 clear hV3 o3 fo3 p4
 refine KC.out.mono ?_
 rintro e w4 ⟨rfl, hcr⟩
 have hb4 := hcr.bl
 have M7 := HM6.out.below hb4
 obtain ⟨o0, o1, o2, o3, o4, o5⟩ := cells5 M7.ro
 obtain ⟨r0, r1, r2, r3_, r4_, r5_⟩ := cells5 M7.rr
 have fo4 := M7.ro.frozen 4
 have fr0 := M7.rr.frozen 0
 have fr1 := M7.rr.frozen 1
 have fr2 := M7.rr.frozen 2
 have fr3 := M7.rr.frozen 3
 have fr4 := M7.rr.frozen 4
 have HM7 := Hid.mk' M7
 have HC := Hid.mk' hcr
 have B4 := Hid.mk' hb4
 clear M7 hcr hb4 KC
 go_wp2
 refine bodyPost_ret (v := .agg #[.slice (some ⟨gd, 0, none⟩) m.dt.length m.dt.length, .int .i64 m.st, .slice (some ⟨V1.heap.size, 0, none⟩) m.tk.length m.tk.length, .slice (some ⟨gh, 0, none⟩) m.hd.length m.hd.length, .slice (some ⟨V3.heap.size, 0, none⟩) m.cs.length m.cs.length]) (by simp [results, Tryz.results7, go_sem, *]) rfl ?_
 have z0 := HM2.out.ro.lt
 have zd := ZD.out
 have zg := Z1.out
 have s2' := S2.out
 have gh' := GH.out
 have l3 := L3.out
 have l7 := HM7.out.ro.lt
 have KK := ((((((KeptIn.refl (w.heap.size + 1) (w.heap.size + 1 + 1 + 1) w4).setCell (p := ⟨w.heap.size + 1 + 1, 4, none⟩) (by simp) (by simp) (.slice (some ⟨V3.heap.size, 0, none⟩) m.cs.length m.cs.length)).setCell (p := ⟨w.heap.size + 1, 0, none⟩) (by simp) (by simp) (.slice (some ⟨gd, 0, none⟩) m.dt.length m.dt.length)).setCell (p := ⟨w.heap.size + 1, 1, none⟩) (by simp) (by simp) (.int .i64 m.st)).setCell (p := ⟨w.heap.size + 1, 2, none⟩) (by simp) (by simp) (.slice (some ⟨V1.heap.size, 0, none⟩) m.tk.length m.tk.length)).setCell (p := ⟨w.heap.size + 1, 3, none⟩) (by simp) (by simp) (.slice (some ⟨gh, 0, none⟩) m.hd.length m.hd.length)).setCell (p := ⟨w.heap.size + 1, 4, none⟩) (by simp) (by simp) (.slice (some ⟨V3.heap.size, 0, none⟩) m.cs.length m.cs.length)
 have b4 := B4.out
 have b4s := b4.size
 have BF := HM7.out.bl.trans (KK.below (B := w.heap.size) (by omega) (by omega))
 refine ⟨gd, V1.heap.size, gh, V3.heap.size, rfl, ⟨rowK (rowB RD.out b4) KK (.inr (by omega)), ⟨V1, w2, rfl, TT.out, gh', fun q a b => (KK.block q (by omega) (by omega)).trans ((b4.block q (by omega)).trans (ST.out q a b))⟩, rowK (rowB RH.out b4) KK (.inr (by omega)), HC.out.cx.keep (fun q a b => KK.block q b (by omega)), by omega, by omega, by omega, by omega⟩, BF⟩
def allK (n : Nat) (p : Nat → Bool) : Bool := (List.range n).all p
theorem allK_true {n : Nat} {p : Nat → Bool} (h : ∀ k, k < n → p k = true) : allK n p = true := by
 unfold allK; rw [List.all_eq_true]; intro k hk; exact h k (List.mem_range.1 hk)
theorem allK_false {n k : Nat} {p : Nat → Bool} (hk : k < n) (h : p k = false) : allK n p = false := by
 rw [Bool.eq_false_iff]; intro e
 unfold allK at e; rw [List.all_eq_true] at e
 rw [e k (List.mem_range.2 hk)] at h; cases h
def aeq (x y : AT) : Bool := (x.nm.toList == y.nm.toList) && ((strI x.vl).toList == (strI y.vl).toList)
def sameAs (l m : List AT) : Bool := decide (l.length = m.length) && allK l.length (fun k => aeq (atK l k) (atK m k))
def teq (x y : TK) : Bool := (x.kd == y.kd) && (x.by_ == y.by_) && (x.nm.toList == y.nm.toList) && (x.sh == y.sh) && sameAs x.at_ y.at_
def sameTs (l m : List TK) : Bool := decide (l.length = m.length) && allK l.length (fun k => teq (tkK l k) (tkK m k))
theorem l4SameAttrs_any (a b : Option Addr) (c d : Nat) (l m : List AT) (w : World) (ha : AAt w a l) (hb : AAt w b m) (hl : (l.length : Int) + asz l ≤ 1048576) (hm : (m.length : Int) + asz m ≤ 1048576) :
  Calls Tryz.prog 113 #[.slice a l.length c, .slice b m.length d] w fun e w' => e = .returned (.bool (sameAs l m)) ∧ Below w.heap.size w w' := by
 have HA := Hid.mk' ha
 have HB := Hid.mk' hb
 clear ha hb
 by_cases hq : l.length = m.length
 rotate_left
 ·have E : Hid (sameAs l m = false) := Hid.mk' (by unfold sameAs; rw [decide_eq_false hq]; rfl)
  have hq' : ¬ (l.length : Int) = m.length := by omega
  go_enter Tryz.func113, Tryz.ntmps113
  go_wp2
  go_ret
  exact ⟨by rw [E.out]; rfl, Below.refl _ _⟩
 have Q := Hid.mk' hq
 have hq' : (l.length : Int) = m.length := by omega
 clear hq
 go_enter Tryz.func113, Tryz.ntmps113
 go_wp2
 go_loopw [5] (fun i wr => ∃ k : Nat, k ≤ l.length ∧ i = .int .i64 k ∧ (∀ j, j < k → aeq (atK l j) (atK m j) = true) ∧ Below w.heap.size w wr) (fun i _ => l.length - (intOf i).toNat)
 case atStart => exact ⟨0, Nat.zero_le _, rfl, fun j h => absurd h (Nat.not_lt_zero _), Below.refl _ _⟩
 case round =>
  obtain ⟨k, hk, rfl, hn, hbl⟩ := hrel
  have HN := Hid.mk' hn
  have R2 := Hid.mk' hbl
  by_cases hlt : k < l.length
  ·have ci : (k : Int) < (l.length : Int) := by omega
   have ci2 : (k : Int) < (m.length : Int) := by omega
   rcases HA.out.below hbl with ha | ⟨b1, o1, rfl, s1, hc1⟩
   ·exact absurd hlt (by rw [ha]; exact Nat.not_lt_zero _)
   rcases HB.out.below hbl with hb | ⟨b2, o2, rfl, s2, hc2⟩
   ·exact absurd hlt (by rw [Q.out, hb]; exact Nat.not_lt_zero _)
   obtain ⟨x1, p1, d1, x2, x3⟩ := hc1 k hlt
   obtain ⟨y1, p2_, d2, y2, y3⟩ := hc2 k (by omega)
   have X3 := Hid.mk' x3
   have Y3 := Hid.mk' y3
   have P0 : Hid (aeq (atK l k) (atK m k) = (((atK l k).nm.toList == (atK m k).nm.toList) && ((strI (atK l k).vl).toList == (strI (atK m k).vl).toList))) := Hid.mk' rfl
   clear hbl hc1 hc2 x3 y3 hn
   cases e1 : ((atK l k).nm.toList == (atK m k).nm.toList) with
   | false =>
    have E : Hid (sameAs l m = false) := Hid.mk' (by unfold sameAs; rw [decide_eq_true Q.out, allK_false hlt (by rw [P0.out, e1]; rfl)]; rfl)
    go_wp2
    go_quiet (fail)
    go_wp2
    go_ret
    exact ⟨by rw [E.out]; rfl, R2.out.trans ⟨rfl, rfl, rfl, Nat.le_refl _, fun _ _ => rfl⟩⟩
   | true =>
    cases e2 : ((strI (atK l k).vl).toList == (strI (atK m k).vl).toList) with
    | false =>
     have E : Hid (sameAs l m = false) := Hid.mk' (by unfold sameAs; rw [decide_eq_true Q.out, allK_false hlt (by rw [P0.out, e1, e2]; rfl)]; rfl)
     go_wp2
     refine wp_region_held_drew (S := (fun w' => w'.cell? ⟨b1, o1 + k * 2, none⟩ = some (.string (atK l k).nm) ∧ w'.cell? ⟨b1, o1 + k * 2 + 1, none⟩ = some (.slice p1 (atK l k).vl.length d1) ∧ w'.cell? ⟨b2, o2 + k * 2, none⟩ = some (.string (atK m k).nm) ∧ w'.cell? ⟨b2, o2 + k * 2 + 1, none⟩ = some (.slice p2_ (atK m k).vl.length d2) ∧ Hid (BAt w' p1 (atK l k).vl) ∧ Hid (BAt w' p2_ (atK m k).vl))) (by kernel_rfl) (by refine ⟨by simp [*], by simp [*], by simp [*], by simp [*], X3.out.below (Below.refl _ _).drew, Y3.out.below (Below.refl _ _).drew⟩) (fun hHeld => ?_)
     refine tkY 0 ?_
     refine tkY 1 ?_
     refine tkY 2 ?_
     refine tkY 3 ?_
     refine tkY 4 ?_
     refine tkY 5 ?_
     refine tkY 6 ?_
     refine tkY 7 ?_
     refine tkY 8 ?_
     refine tkY 9 ?_
     refine tkY 10 ?_
     refine tkY 11 ?_
     refine tkY 12 ?_
     refine tkY 13 ?_
     refine tkY 14 ?_
     refine tkY 15 ?_
     refine tkY 16 ?_
     refine wpAnyH_take (i := 17) (oi := ⟨_, _, _, _, _, _⟩) (v := .string (strI (atK l k).vl)) rfl (by kernel_rfl) (by kernel_rfl) (by kernel_rfl) (fun _ _ _ h => h) (Or.inl ⟨by rfl, ?_⟩) (by assumption) ?_
     ·(intro w hSw; have hcv := conv_bytesT d1 hSw.2.2.2.2.1.out; clear hSw; go_simp; (try with_reducible rfl))
     try simp only [Act.put, zA, zB, zC]
     refine tkY 18 ?_
     refine tkY 19 ?_
     refine tkY 20 ?_
     refine tkY 21 ?_
     refine tkY 22 ?_
     refine wpAnyH_take (i := 23) (oi := ⟨_, _, _, _, _, _⟩) (v := .string (strI (atK m k).vl)) rfl (by kernel_rfl) (by kernel_rfl) (by kernel_rfl) (fun _ _ _ h => h) (Or.inl ⟨by rfl, ?_⟩) (by assumption) ?_
     ·(intro w hSw; have hcv := conv_bytesT d2 hSw.2.2.2.2.2.out; clear hSw; go_simp; (try with_reducible rfl))
     try simp only [Act.put, zA, zB, zC]
     refine tkY 24 ?_
     refine tkY 25 ?_
     refine wpAnyH_done (by kernel_rfl) ?_ _
     go_wp2
     go_ret
     exact ⟨by rw [E.out]; rfl, R2.out.drew⟩
    | true =>
     have E : Hid (aeq (atK l k) (atK m k) = true) := Hid.mk' (by rw [P0.out, e1, e2]; rfl)
     go_wp2
     refine wp_region_held_drew (S := (fun w' => w'.cell? ⟨b1, o1 + k * 2, none⟩ = some (.string (atK l k).nm) ∧ w'.cell? ⟨b1, o1 + k * 2 + 1, none⟩ = some (.slice p1 (atK l k).vl.length d1) ∧ w'.cell? ⟨b2, o2 + k * 2, none⟩ = some (.string (atK m k).nm) ∧ w'.cell? ⟨b2, o2 + k * 2 + 1, none⟩ = some (.slice p2_ (atK m k).vl.length d2) ∧ Hid (BAt w' p1 (atK l k).vl) ∧ Hid (BAt w' p2_ (atK m k).vl))) (by kernel_rfl) (by refine ⟨by simp [*], by simp [*], by simp [*], by simp [*], X3.out.below (Below.refl _ _).drew, Y3.out.below (Below.refl _ _).drew⟩) (fun hHeld => ?_)
     refine tkY 0 ?_
     refine tkY 1 ?_
     refine tkY 2 ?_
     refine tkY 3 ?_
     refine tkY 4 ?_
     refine tkY 5 ?_
     refine tkY 6 ?_
     refine tkY 7 ?_
     refine tkY 8 ?_
     refine tkY 9 ?_
     refine tkY 10 ?_
     refine tkY 11 ?_
     refine tkY 12 ?_
     refine tkY 13 ?_
     refine tkY 14 ?_
     refine tkY 15 ?_
     refine tkY 16 ?_
     refine wpAnyH_take (i := 17) (oi := ⟨_, _, _, _, _, _⟩) (v := .string (strI (atK l k).vl)) rfl (by kernel_rfl) (by kernel_rfl) (by kernel_rfl) (fun _ _ _ h => h) (Or.inl ⟨by rfl, ?_⟩) (by assumption) ?_
     ·(intro w hSw; have hcv := conv_bytesT d1 hSw.2.2.2.2.1.out; clear hSw; go_simp; (try with_reducible rfl))
     try simp only [Act.put, zA, zB, zC]
     refine tkY 18 ?_
     refine tkY 19 ?_
     refine tkY 20 ?_
     refine tkY 21 ?_
     refine tkY 22 ?_
     refine wpAnyH_take (i := 23) (oi := ⟨_, _, _, _, _, _⟩) (v := .string (strI (atK m k).vl)) rfl (by kernel_rfl) (by kernel_rfl) (by kernel_rfl) (fun _ _ _ h => h) (Or.inl ⟨by rfl, ?_⟩) (by assumption) ?_
     ·(intro w hSw; have hcv := conv_bytesT d2 hSw.2.2.2.2.2.out; clear hSw; go_simp; (try with_reducible rfl))
     try simp only [Act.put, zA, zB, zC]
     refine tkY 24 ?_
     refine tkY 25 ?_
     refine wpAnyH_done (by kernel_rfl) ?_ _
     go_wp2
     go_roundw
     case rel => exact ⟨k + 1, by omega, by go_num, fun j hj => by
      by_cases h : j = k
      ·subst h; exact E.out
      ·exact HN.out j (by omega), R2.out.drew⟩
     case measure => simp [intOf]; omega
  ·have ci : ¬ (k : Int) < (l.length : Int) := by omega
   have e : k = l.length := by omega
   subst e
   have E : Hid (sameAs l m = true) := Hid.mk' (by unfold sameAs; rw [decide_eq_true Q.out, allK_true HN.out]; rfl)
   go_wp2
   go_ret
   exact ⟨by rw [E.out]; rfl, R2.out⟩
theorem l4Same_any (x y : TK) (b1 o1 b2 o2 : Nat) (p1 p2_ : Option Addr) (d1 d2 : Nat) (w : World)
  (x0 : w.cell? ⟨b1, o1, none⟩ = some (.int .i64 x.kd)) (x1 : w.cell? ⟨b1, o1 + 1, none⟩ = some (.int .i64 x.by_)) (x2 : w.cell? ⟨b1, o1 + 2, none⟩ = some (.string x.nm)) (x3 : w.cell? ⟨b1, o1 + 3, none⟩ = some (.slice p1 x.at_.length d1)) (x4 : w.cell? ⟨b1, o1 + 4, none⟩ = some (.bool x.sh)) (x5 : AAt w p1 x.at_)
  (y0 : w.cell? ⟨b2, o2, none⟩ = some (.int .i64 y.kd)) (y1 : w.cell? ⟨b2, o2 + 1, none⟩ = some (.int .i64 y.by_)) (y2 : w.cell? ⟨b2, o2 + 2, none⟩ = some (.string y.nm)) (y3 : w.cell? ⟨b2, o2 + 3, none⟩ = some (.slice p2_ y.at_.length d2)) (y4 : w.cell? ⟨b2, o2 + 4, none⟩ = some (.bool y.sh)) (y5 : AAt w p2_ y.at_)
  (hx : (x.at_.length : Int) + asz x.at_ ≤ 1048576) (hy : (y.at_.length : Int) + asz y.at_ ≤ 1048576) :
  Calls Tryz.prog 101 #[.pointer (some ⟨b1, o1, none⟩), .pointer (some ⟨b2, o2, none⟩)] w fun e w' => e = .returned (.bool (teq x y)) ∧ Below w.heap.size w w' := by
 have KA := Hid.mk' (l4SameAttrs_any p1 p2_ d1 d2 x.at_ y.at_ w.drew (x5.below (Below.refl _ _).drew) (y5.below (Below.refl _ _).drew) hx hy)
 clear x5 y5
 by_cases e1 : x.kd = y.kd
 rotate_left
 ·have E : Hid (teq x y = false) := Hid.mk' (by unfold teq; rw [show (x.kd == y.kd) = false by simp [e1]]; rfl)
  have e1b : (x.kd == y.kd) = false := by simp [e1]
  clear e1
  go_enter Tryz.func101, Tryz.ntmps101
  go_wp2
  refine wp_region_held_drew (S := (fun w' => w'.cell? ⟨b1, o1, none⟩ = some (.int .i64 x.kd) ∧ w'.cell? ⟨b1, o1 + 1, none⟩ = some (.int .i64 x.by_) ∧ w'.cell? ⟨b1, o1 + 2, none⟩ = some (.string x.nm) ∧ w'.cell? ⟨b1, o1 + 3, none⟩ = some (.slice p1 x.at_.length d1) ∧ w'.cell? ⟨b1, o1 + 4, none⟩ = some (.bool x.sh) ∧ w'.cell? ⟨b2, o2, none⟩ = some (.int .i64 y.kd) ∧ w'.cell? ⟨b2, o2 + 1, none⟩ = some (.int .i64 y.by_) ∧ w'.cell? ⟨b2, o2 + 2, none⟩ = some (.string y.nm) ∧ w'.cell? ⟨b2, o2 + 3, none⟩ = some (.slice p2_ y.at_.length d2) ∧ w'.cell? ⟨b2, o2 + 4, none⟩ = some (.bool y.sh))) (by kernel_rfl) (by simp [*]) (fun hHeld => ?_)
  refine tkY 0 ?_
  refine tkY 1 ?_
  refine tkY 2 ?_
  refine tkY 3 ?_
  refine tkY 4 ?_
  refine tkY 5 ?_
  refine tkY 6 ?_
  refine tkY 7 ?_
  refine tkY 8 ?_
  refine tkY 9 ?_
  refine tkU 10 ?_
  refine tkU 11 ?_
  refine tkU 12 ?_
  refine tkU 13 ?_
  refine tkU 14 ?_
  refine tkU 15 ?_
  refine tkU 16 ?_
  refine tkU 17 ?_
  refine tkU 18 ?_
  refine tkY 19 ?_
  refine tkY 20 ?_
  refine tkU 21 ?_
  refine tkU 22 ?_
  refine tkU 23 ?_
  refine tkU 24 ?_
  refine tkU 25 ?_
  refine tkU 26 ?_
  refine tkU 27 ?_
  refine tkU 28 ?_
  refine tkU 29 ?_
  refine tkY 30 ?_
  refine tkY 31 ?_
  refine tkU 32 ?_
  refine tkU 33 ?_
  refine tkU 34 ?_
  refine tkU 35 ?_
  refine tkU 36 ?_
  refine tkU 37 ?_
  refine tkU 38 ?_
  refine tkU 39 ?_
  refine tkU 40 ?_
  refine tkY 41 ?_
  refine tkY 42 ?_
  refine tkU 43 ?_
  refine tkU 44 ?_
  refine tkU 45 ?_
  refine tkU 46 ?_
  refine tkU 47 ?_
  refine tkU 48 ?_
  refine tkU 49 ?_
  refine tkU 50 ?_
  refine tkU 51 ?_
  refine tkY 52 ?_
  refine tkY 53 ?_
  refine wpAnyH_done (by kernel_rfl) ?_ _
  go_wp2
  go_ret
  exact ⟨by rw [E.out]; rfl, (Below.refl _ _).drew⟩
 by_cases e2 : x.by_ = y.by_
 rotate_left
 ·have E : Hid (teq x y = false) := Hid.mk' (by unfold teq; rw [show (x.by_ == y.by_) = false by simp [e2]]; simp)
  have e2b : (x.by_ == y.by_) = false := by simp [e2]
  clear e2
  rw [e1] at x0
  clear e1
  go_enter Tryz.func101, Tryz.ntmps101
  go_wp2
  refine wp_region_held_drew (S := (fun w' => w'.cell? ⟨b1, o1, none⟩ = some (.int .i64 y.kd) ∧ w'.cell? ⟨b1, o1 + 1, none⟩ = some (.int .i64 x.by_) ∧ w'.cell? ⟨b1, o1 + 2, none⟩ = some (.string x.nm) ∧ w'.cell? ⟨b1, o1 + 3, none⟩ = some (.slice p1 x.at_.length d1) ∧ w'.cell? ⟨b1, o1 + 4, none⟩ = some (.bool x.sh) ∧ w'.cell? ⟨b2, o2, none⟩ = some (.int .i64 y.kd) ∧ w'.cell? ⟨b2, o2 + 1, none⟩ = some (.int .i64 y.by_) ∧ w'.cell? ⟨b2, o2 + 2, none⟩ = some (.string y.nm) ∧ w'.cell? ⟨b2, o2 + 3, none⟩ = some (.slice p2_ y.at_.length d2) ∧ w'.cell? ⟨b2, o2 + 4, none⟩ = some (.bool y.sh))) (by kernel_rfl) (by simp [*]) (fun hHeld => ?_)
  refine tkY 0 ?_
  refine tkY 1 ?_
  refine tkY 2 ?_
  refine tkY 3 ?_
  refine tkY 4 ?_
  refine tkY 5 ?_
  refine tkY 6 ?_
  refine tkY 7 ?_
  refine tkY 8 ?_
  refine tkY 9 ?_
  refine tkY 10 ?_
  refine tkY 11 ?_
  refine tkY 12 ?_
  refine tkY 13 ?_
  refine tkY 14 ?_
  refine tkY 15 ?_
  refine tkY 16 ?_
  refine tkY 17 ?_
  refine tkY 18 ?_
  refine tkY 19 ?_
  refine tkY 20 ?_
  refine tkU 21 ?_
  refine tkU 22 ?_
  refine tkU 23 ?_
  refine tkU 24 ?_
  refine tkU 25 ?_
  refine tkU 26 ?_
  refine tkU 27 ?_
  refine tkU 28 ?_
  refine tkU 29 ?_
  refine tkY 30 ?_
  refine tkY 31 ?_
  refine tkU 32 ?_
  refine tkU 33 ?_
  refine tkU 34 ?_
  refine tkU 35 ?_
  refine tkU 36 ?_
  refine tkU 37 ?_
  refine tkU 38 ?_
  refine tkU 39 ?_
  refine tkU 40 ?_
  refine tkY 41 ?_
  refine tkY 42 ?_
  refine tkU 43 ?_
  refine tkU 44 ?_
  refine tkU 45 ?_
  refine tkU 46 ?_
  refine tkU 47 ?_
  refine tkU 48 ?_
  refine tkU 49 ?_
  refine tkU 50 ?_
  refine tkU 51 ?_
  refine tkY 52 ?_
  refine tkY 53 ?_
  refine wpAnyH_done (by kernel_rfl) ?_ _
  go_wp2
  go_ret
  exact ⟨by rw [E.out]; rfl, (Below.refl _ _).drew⟩
 cases e3 : (x.nm.toList == y.nm.toList) with
 | false =>
  have E : Hid (teq x y = false) := Hid.mk' (by unfold teq; rw [e3]; simp)
  rw [e1] at x0
  rw [e2] at x1
  clear e1 e2
  go_enter Tryz.func101, Tryz.ntmps101
  go_wp2
  refine wp_region_held_drew (S := (fun w' => w'.cell? ⟨b1, o1, none⟩ = some (.int .i64 y.kd) ∧ w'.cell? ⟨b1, o1 + 1, none⟩ = some (.int .i64 y.by_) ∧ w'.cell? ⟨b1, o1 + 2, none⟩ = some (.string x.nm) ∧ w'.cell? ⟨b1, o1 + 3, none⟩ = some (.slice p1 x.at_.length d1) ∧ w'.cell? ⟨b1, o1 + 4, none⟩ = some (.bool x.sh) ∧ w'.cell? ⟨b2, o2, none⟩ = some (.int .i64 y.kd) ∧ w'.cell? ⟨b2, o2 + 1, none⟩ = some (.int .i64 y.by_) ∧ w'.cell? ⟨b2, o2 + 2, none⟩ = some (.string y.nm) ∧ w'.cell? ⟨b2, o2 + 3, none⟩ = some (.slice p2_ y.at_.length d2) ∧ w'.cell? ⟨b2, o2 + 4, none⟩ = some (.bool y.sh))) (by kernel_rfl) (by simp [*]) (fun hHeld => ?_)
  refine tkY 0 ?_
  refine tkY 1 ?_
  refine tkY 2 ?_
  refine tkY 3 ?_
  refine tkY 4 ?_
  refine tkY 5 ?_
  refine tkY 6 ?_
  refine tkY 7 ?_
  refine tkY 8 ?_
  refine tkY 9 ?_
  refine tkY 10 ?_
  refine tkY 11 ?_
  refine tkY 12 ?_
  refine tkY 13 ?_
  refine tkY 14 ?_
  refine tkY 15 ?_
  refine tkY 16 ?_
  refine tkY 17 ?_
  refine tkY 18 ?_
  refine tkY 19 ?_
  refine tkY 20 ?_
  refine tkY 21 ?_
  refine tkY 22 ?_
  refine tkY 23 ?_
  refine tkY 24 ?_
  refine tkY 25 ?_
  refine tkY 26 ?_
  refine tkY 27 ?_
  refine tkY 28 ?_
  refine tkY 29 ?_
  refine tkY 30 ?_
  refine tkY 31 ?_
  refine tkU 32 ?_
  refine tkU 33 ?_
  refine tkU 34 ?_
  refine tkU 35 ?_
  refine tkU 36 ?_
  refine tkU 37 ?_
  refine tkU 38 ?_
  refine tkU 39 ?_
  refine tkU 40 ?_
  refine tkY 41 ?_
  refine tkY 42 ?_
  refine tkU 43 ?_
  refine tkU 44 ?_
  refine tkU 45 ?_
  refine tkU 46 ?_
  refine tkU 47 ?_
  refine tkU 48 ?_
  refine tkU 49 ?_
  refine tkU 50 ?_
  refine tkU 51 ?_
  refine tkY 52 ?_
  refine tkY 53 ?_
  refine wpAnyH_done (by kernel_rfl) ?_ _
  go_wp2
  go_ret
  exact ⟨by rw [E.out]; rfl, (Below.refl _ _).drew⟩
 | true =>
  by_cases e4 : x.sh = y.sh
  rotate_left
  ·have E : Hid (teq x y = false) := Hid.mk' (by unfold teq; rw [show (x.sh == y.sh) = false by simp [e4]]; simp)
   have e5 : (x.sh == y.sh) = false := by simp [e4]
   rw [e1] at x0
   rw [e2] at x1
   clear e1 e2 e4
   go_enter Tryz.func101, Tryz.ntmps101
   go_wp2
   refine wp_region_held_drew (S := (fun w' => w'.cell? ⟨b1, o1, none⟩ = some (.int .i64 y.kd) ∧ w'.cell? ⟨b1, o1 + 1, none⟩ = some (.int .i64 y.by_) ∧ w'.cell? ⟨b1, o1 + 2, none⟩ = some (.string x.nm) ∧ w'.cell? ⟨b1, o1 + 3, none⟩ = some (.slice p1 x.at_.length d1) ∧ w'.cell? ⟨b1, o1 + 4, none⟩ = some (.bool x.sh) ∧ w'.cell? ⟨b2, o2, none⟩ = some (.int .i64 y.kd) ∧ w'.cell? ⟨b2, o2 + 1, none⟩ = some (.int .i64 y.by_) ∧ w'.cell? ⟨b2, o2 + 2, none⟩ = some (.string y.nm) ∧ w'.cell? ⟨b2, o2 + 3, none⟩ = some (.slice p2_ y.at_.length d2) ∧ w'.cell? ⟨b2, o2 + 4, none⟩ = some (.bool y.sh))) (by kernel_rfl) (by simp [*]) (fun hHeld => ?_)
   refine tkY 0 ?_
   refine tkY 1 ?_
   refine tkY 2 ?_
   refine tkY 3 ?_
   refine tkY 4 ?_
   refine tkY 5 ?_
   refine tkY 6 ?_
   refine tkY 7 ?_
   refine tkY 8 ?_
   refine tkY 9 ?_
   refine tkY 10 ?_
   refine tkY 11 ?_
   refine tkY 12 ?_
   refine tkY 13 ?_
   refine tkY 14 ?_
   refine tkY 15 ?_
   refine tkY 16 ?_
   refine tkY 17 ?_
   refine tkY 18 ?_
   refine tkY 19 ?_
   refine tkY 20 ?_
   refine tkY 21 ?_
   refine tkY 22 ?_
   refine tkY 23 ?_
   refine tkY 24 ?_
   refine tkY 25 ?_
   refine tkY 26 ?_
   refine tkY 27 ?_
   refine tkY 28 ?_
   refine tkY 29 ?_
   refine tkY 30 ?_
   refine tkY 31 ?_
   refine tkY 32 ?_
   refine tkY 33 ?_
   refine tkY 34 ?_
   refine tkY 35 ?_
   refine tkY 36 ?_
   refine tkY 37 ?_
   refine tkY 38 ?_
   refine tkY 39 ?_
   refine tkY 40 ?_
   refine tkY 41 ?_
   refine tkY 42 ?_
   refine tkU 43 ?_
   refine tkU 44 ?_
   refine tkU 45 ?_
   refine tkU 46 ?_
   refine tkU 47 ?_
   refine tkU 48 ?_
   refine tkU 49 ?_
   refine tkU 50 ?_
   refine tkU 51 ?_
   refine tkY 52 ?_
   refine tkY 53 ?_
   refine wpAnyH_done (by kernel_rfl) ?_ _
   go_wp2
   go_ret
   exact ⟨by rw [E.out]; rfl, (Below.refl _ _).drew⟩
  ·have E : Hid (teq x y = sameAs x.at_ y.at_) := Hid.mk' (by unfold teq; rw [e3, e1, e2, e4]; simp)
   rw [e1] at x0
   rw [e2] at x1
   rw [e4] at x4
   clear e1 e2 e4
   go_enter Tryz.func101, Tryz.ntmps101
   go_wp2
   refine wp_region_held_drew (S := (fun w' => w'.cell? ⟨b1, o1, none⟩ = some (.int .i64 y.kd) ∧ w'.cell? ⟨b1, o1 + 1, none⟩ = some (.int .i64 y.by_) ∧ w'.cell? ⟨b1, o1 + 2, none⟩ = some (.string x.nm) ∧ w'.cell? ⟨b1, o1 + 3, none⟩ = some (.slice p1 x.at_.length d1) ∧ w'.cell? ⟨b1, o1 + 4, none⟩ = some (.bool y.sh) ∧ w'.cell? ⟨b2, o2, none⟩ = some (.int .i64 y.kd) ∧ w'.cell? ⟨b2, o2 + 1, none⟩ = some (.int .i64 y.by_) ∧ w'.cell? ⟨b2, o2 + 2, none⟩ = some (.string y.nm) ∧ w'.cell? ⟨b2, o2 + 3, none⟩ = some (.slice p2_ y.at_.length d2) ∧ w'.cell? ⟨b2, o2 + 4, none⟩ = some (.bool y.sh))) (by kernel_rfl) (by simp [*]) (fun hHeld => ?_)
   refine tkY 0 ?_
   refine tkY 1 ?_
   refine tkY 2 ?_
   refine tkY 3 ?_
   refine tkY 4 ?_
   refine tkY 5 ?_
   refine tkY 6 ?_
   refine tkY 7 ?_
   refine tkY 8 ?_
   refine tkY 9 ?_
   refine tkY 10 ?_
   refine tkY 11 ?_
   refine tkY 12 ?_
   refine tkY 13 ?_
   refine tkY 14 ?_
   refine tkY 15 ?_
   refine tkY 16 ?_
   refine tkY 17 ?_
   refine tkY 18 ?_
   refine tkY 19 ?_
   refine tkY 20 ?_
   refine tkY 21 ?_
   refine tkY 22 ?_
   refine tkY 23 ?_
   refine tkY 24 ?_
   refine tkY 25 ?_
   refine tkY 26 ?_
   refine tkY 27 ?_
   refine tkY 28 ?_
   refine tkY 29 ?_
   refine tkY 30 ?_
   refine tkY 31 ?_
   refine tkY 32 ?_
   refine tkY 33 ?_
   refine tkY 34 ?_
   refine tkY 35 ?_
   refine tkY 36 ?_
   refine tkY 37 ?_
   refine tkY 38 ?_
   refine tkY 39 ?_
   refine tkY 40 ?_
   refine tkY 41 ?_
   refine tkY 42 ?_
   refine tkY 43 ?_
   refine tkY 44 ?_
   refine tkY 45 ?_
   refine tkY 46 ?_
   refine tkY 47 ?_
   refine tkY 48 ?_
   refine tkY 49 ?_
   refine tkY 50 ?_
   refine wpAnyH_ready (rs := [51]) (by kernel_rfl) (by simp) ?_
   refine AllReadyH.cons (o := ⟨_, _, _, _, _, _⟩) rfl (fun K hK => ?_) AllReadyH.nil
   go_simp
   go_at_call 113; refine KA.out.mono ?_; rintro e w1 ⟨rfl, hb⟩; have HB := Hid.mk' (undrew hb); obtain ⟨hx_, hy_⟩ := bcell HB.out; have g1 := World.block_lt_of_cell? _ _ x0; have g2 := World.block_lt_of_cell? _ _ y0; clear hb
   refine hK.out _ _ (by (try dsimp only); simp [*]) (fun hHeld => ?_)
   clear hK K
   try clear hx hy
   try simp only [Act.put, zA, zB, zC]
   refine tkY 52 ?_
   refine tkY 53 ?_
   refine wpAnyH_done (by kernel_rfl) ?_ _
   go_wp2
   go_ret
   exact ⟨by rw [E.out]; simp, HB.out⟩
theorem specSame_any (a b : Option Addr) (c d : Nat) (l m : List TK) (w : World) (ha : TsAt w a l) (hb : TsAt w b m) (hl : (l.length : Int) + tssz l ≤ 1048576) (hm : (m.length : Int) + tssz m ≤ 1048576) :
  Calls Tryz.prog 83 #[.slice a l.length c, .slice b m.length d] w fun e w' => e = .returned (.bool (sameTs l m)) ∧ Below w.heap.size w w' := by
 have HA := Hid.mk' ha
 have HB := Hid.mk' hb
 clear ha hb
 by_cases hq : l.length = m.length
 rotate_left
 ·have E : Hid (sameTs l m = false) := Hid.mk' (by unfold sameTs; rw [decide_eq_false hq]; rfl)
  have hq' : ¬ (l.length : Int) = m.length := by omega
  go_enter Tryz.func83, Tryz.ntmps83
  go_wp2
  go_ret
  exact ⟨by rw [E.out]; rfl, Below.refl _ _⟩
 have Q := Hid.mk' hq
 have hq' : (l.length : Int) = m.length := by omega
 clear hq
 go_enter Tryz.func83, Tryz.ntmps83
 go_wp2
 go_loopw [5] (fun i wr => ∃ k : Nat, k ≤ l.length ∧ i = .int .i64 k ∧ (∀ j, j < k → teq (tkK l j) (tkK m j) = true) ∧ Below w.heap.size w wr) (fun i _ => l.length - (intOf i).toNat)
 case atStart => exact ⟨0, Nat.zero_le _, rfl, fun j h => absurd h (Nat.not_lt_zero _), Below.refl _ _⟩
 case round =>
  obtain ⟨k, hk, rfl, hn, hbl⟩ := hrel
  have HN := Hid.mk' hn
  have R2 := Hid.mk' hbl
  by_cases hlt : k < l.length
  ·have ci : (k : Int) < (l.length : Int) := by omega
   have ci2 : (k : Int) < (m.length : Int) := by omega
   rcases HA.out.below hbl with ha | ⟨b1, o1, rfl, s1, hc1⟩
   ·exact absurd hlt (by rw [ha]; exact Nat.not_lt_zero _)
   rcases HB.out.below hbl with hb | ⟨b2, o2, rfl, s2, hc2⟩
   ·exact absurd hlt (by rw [Q.out, hb]; exact Nat.not_lt_zero _)
   obtain ⟨x0, x1, x2, ⟨p1, d1, x3, x5⟩, x4⟩ := hc1 k hlt
   obtain ⟨y0, y1, y2, ⟨p2_, d2, y3, y5⟩, y4⟩ := hc2 k (by omega)
   have st := tssz_take l k hlt
   have sl := tssz_le l (k + 1)
   have st2 := tssz_take m k (by omega)
   have sl2 := tssz_le m (k + 1)
   unfold tsz at st st2
   have D := (Below.refl wr.heap.size wr).drew
   have KE := Hid.mk' (l4Same_any (tkK l k) (tkK m k) b1 (o1 + k * 5) b2 (o2 + k * 5) p1 p2_ d1 d2 wr.drew x0 x1 x2 x3 x4 (x5.below D) y0 y1 y2 y3 y4 (y5.below D) (by omega) (by omega))
   clear hbl hc1 hc2 hn x5 y5 st sl st2 sl2 D x0 x1 x2 x3 x4 y0 y1 y2 y3 y4
   cases e1 : teq (tkK l k) (tkK m k) with
   | false =>
    rw [e1] at KE
    have E : Hid (sameTs l m = false) := Hid.mk' (by unfold sameTs; rw [decide_eq_true Q.out, allK_false hlt e1]; rfl)
    go_wp2
    go_region_held3 (fun w' => True) (simp [*])
     ((go_at_call 101; refine KE.out.mono ?_; rintro e w1 ⟨rfl, hb1⟩; replace hb1 := undrew hb1))
    go_wp2
    go_ret
    exact ⟨by rw [E.out]; rfl, R2.out.trans (hb1.mono R2.out.size)⟩
   | true =>
    rw [e1] at KE
    go_wp2
    go_region_held3 (fun w' => True) (simp [*])
     ((go_at_call 101; refine KE.out.mono ?_; rintro e w1 ⟨rfl, hb1⟩; replace hb1 := undrew hb1))
    go_wp2
    go_roundw
    case rel => exact ⟨k + 1, by omega, by go_num, fun j hj => by
     by_cases h : j = k
     ·subst h; exact e1
     ·exact HN.out j (by omega), R2.out.trans (hb1.mono R2.out.size)⟩
    case measure => simp [intOf]; omega
  ·have ci : ¬ (k : Int) < (l.length : Int) := by omega
   have e : k = l.length := by omega
   subst e
   have E : Hid (sameTs l m = true) := Hid.mk' (by unfold sameTs; rw [decide_eq_true Q.out, allK_true HN.out]; rfl)
   go_wp2
   go_ret
   exact ⟨by rw [E.out]; rfl, R2.out⟩
theorem bytesEqual_any (a b : Option Addr) (c d : Nat) (l m : List Int) (w : World) (h1 : BAt w a l) (h2 : BAt w b m) :
  Calls Tryz.prog 93 #[.slice a l.length c, .slice b m.length d] w fun e w' => e = .returned (.bool ((strI l).toList == (strI m).toList)) ∧ w' = w := by
 have k1 := conv_bytesT c h1
 have k2 := conv_bytesT d h2
 clear h1 h2
 go_enter Tryz.func93, Tryz.ntmps93
 go_wp2
 go_ret
 exact ⟨rfl, rfl⟩
theorem sameAttr_any (x y : AT) (a b : Option Addr) (c d : Nat) (w : World) (ha : BAt w a x.vl) (hb : BAt w b y.vl) :
  Calls Tryz.prog 120 #[.agg #[.string x.nm, .slice a x.vl.length c], .agg #[.string y.nm, .slice b y.vl.length d]] w fun e w' => e = .returned (.bool (aeq x y)) ∧ Below w.heap.size w w' := by
 have B0 := ((Below.refl w.heap.size w).alloc (Nat.le_refl _) (.cells #[.string x.nm, .slice a x.vl.length c] 127)).alloc (by simp) (.cells #[.string y.nm, .slice b y.vl.length d] 127)
 have KB := Hid.mk' (bytesEqual_any a b c d x.vl y.vl _ (ha.below B0) (hb.below B0))
 have HB := Hid.mk' B0
 clear ha hb B0
 cases e1 : (x.nm.toList == y.nm.toList) with
 | false =>
  have E : Hid (aeq x y = false) := Hid.mk' (by unfold aeq; rw [e1]; rfl)
  go_enter Tryz.func120, Tryz.ntmps120
  go_wp2_with fail
  go_ret
  exact ⟨by rw [E.out]; rfl, HB.out⟩
 | true =>
  have E : Hid (aeq x y = ((strI x.vl).toList == (strI y.vl).toList)) := Hid.mk' (by unfold aeq; rw [e1]; rfl)
  go_enter Tryz.func120, Tryz.ntmps120
  go_wp2_with fail
  refine KB.out.mono ?_
  rintro e w1 ⟨rfl, rfl⟩
  go_wp2
  go_ret
  exact ⟨by rw [E.out]; rfl, HB.out⟩
theorem equalAttrs_any (a b : Option Addr) (c d : Nat) (l m : List AT) (w : World) (ha : AAt w a l) (hb : AAt w b m) (hl : (l.length : Int) ≤ 1048576) (hm : (m.length : Int) ≤ 1048576) :
  Calls Tryz.prog 119 #[.slice a l.length c, .slice b m.length d, .func (.func 120) #[] #[]] w fun e w' => e = .returned (.bool (sameAs l m)) ∧ Below w.heap.size w w' := by
 have HA := Hid.mk' ha
 have HB := Hid.mk' hb
 clear ha hb
 by_cases hq : l.length = m.length
 rotate_left
 ·have E : Hid (sameAs l m = false) := Hid.mk' (by unfold sameAs; rw [decide_eq_false hq]; rfl)
  have hq' : ¬ (l.length : Int) = m.length := by omega
  go_enter Tryz.func119, Tryz.ntmps119
  go_wp2
  go_ret
  exact ⟨by rw [E.out]; rfl, Below.refl _ _⟩
 have Q := Hid.mk' hq
 have hq' : (l.length : Int) = m.length := by omega
 clear hq
 go_enter Tryz.func119, Tryz.ntmps119
 go_wp2
 go_loopw [17] (fun i wr => ∃ k : Nat, k ≤ l.length ∧ i = .int .i64 k ∧ (∀ j, j < k → aeq (atK l j) (atK m j) = true) ∧ Below w.heap.size w wr) (fun i _ => l.length - (intOf i).toNat)
 case atStart => exact ⟨0, Nat.zero_le _, rfl, fun j h => absurd h (Nat.not_lt_zero _), Below.refl _ _⟩
 case round =>
  obtain ⟨k, hk, rfl, hn, hbl⟩ := hrel
  have HN := Hid.mk' hn
  have R2 := Hid.mk' hbl
  by_cases hlt : k < l.length
  ·have ci : (k : Int) < (l.length : Int) := by omega
   have ci2 : (k : Int) < (m.length : Int) := by omega
   rcases HA.out.below hbl with ha | ⟨b1, o1, rfl, s1, hc1⟩
   ·exact absurd hlt (by rw [ha]; exact Nat.not_lt_zero _)
   rcases HB.out.below hbl with hb | ⟨b2, o2, rfl, s2, hc2⟩
   ·exact absurd hlt (by rw [Q.out, hb]; exact Nat.not_lt_zero _)
   obtain ⟨x1, p1, d1, x2, x3⟩ := hc1 k hlt
   obtain ⟨y1, p2_, d2, y2, y3⟩ := hc2 k (by omega)
   have B0 := ((Below.refl wr.heap.size wr).alloc (Nat.le_refl _) (.cells #[.string (atK l k).nm, .slice p1 (atK l k).vl.length d1] 127)).alloc (by simp) (.cells #[.string (atK m k).nm, .slice p2_ (atK m k).vl.length d2] 127)
   have KE := Hid.mk' (sameAttr_any (atK l k) (atK m k) p1 p2_ d1 d2 _ (x3.below B0) (y3.below B0))
   have R3 := Hid.mk' (R2.out.trans (B0.mono R2.out.size))
   clear hbl hc1 hc2 hn x3 y3 B0
   cases e1 : aeq (atK l k) (atK m k) with
   | false =>
    rw [e1] at KE
    have E : Hid (sameAs l m = false) := Hid.mk' (by unfold sameAs; rw [decide_eq_true Q.out, allK_false hlt e1]; rfl)
    go_wp2_with fail
    refine KE.out.mono ?_
    rintro e w1 ⟨rfl, hb1⟩
    have R4 := Hid.mk' (R3.out.trans (hb1.mono R3.out.size))
    clear hb1 KE
    go_wp2
    go_ret
    exact ⟨by rw [E.out]; rfl, R4.out⟩
   | true =>
    rw [e1] at KE
    go_wp2_with fail
    refine KE.out.mono ?_
    rintro e w1 ⟨rfl, hb1⟩
    have R4 := Hid.mk' (R3.out.trans (hb1.mono R3.out.size))
    clear hb1 KE
    go_wp2
    go_roundw
    case rel => exact ⟨k + 1, by omega, by go_num, fun j hj => by
     by_cases h : j = k
     ·subst h; exact e1
     ·exact HN.out j (by omega), R4.out⟩
    case measure => simp [intOf]; omega
  ·have ci : ¬ (k : Int) < (l.length : Int) := by omega
   have e : k = l.length := by omega
   subst e
   have E : Hid (sameAs l m = true) := Hid.mk' (by unfold sameAs; rw [decide_eq_true Q.out, allK_true HN.out]; rfl)
   go_wp2
   go_ret
   exact ⟨by rw [E.out]; rfl, R2.out⟩
theorem sameToken_any (x y : TK) (a b : Option Addr) (c d : Nat) (w : World) (ha : AAt w a x.at_) (hb : AAt w b y.at_) (hx : (x.at_.length : Int) ≤ 1048576) (hy : (y.at_.length : Int) ≤ 1048576) :
  Calls Tryz.prog 107 #[.agg #[.int .i64 x.kd, .int .i64 x.by_, .string x.nm, .slice a x.at_.length c, .bool x.sh], .agg #[.int .i64 y.kd, .int .i64 y.by_, .string y.nm, .slice b y.at_.length d, .bool y.sh]] w fun e w' => e = .returned (.bool (teq x y)) ∧ Below w.heap.size w w' := by
 have B0 := ((Below.refl w.heap.size w).alloc (Nat.le_refl _) (.cells #[.int .i64 x.kd, .int .i64 x.by_, .string x.nm, .slice a x.at_.length c, .bool x.sh] 87)).alloc (by simp) (.cells #[.int .i64 y.kd, .int .i64 y.by_, .string y.nm, .slice b y.at_.length d, .bool y.sh] 87)
 have KA := Hid.mk' (equalAttrs_any a b c d x.at_ y.at_ _ (ha.below B0) (hb.below B0) hx hy)
 have HB := Hid.mk' B0
 clear ha hb B0
 cases e1 : (x.kd == y.kd) with
 | false =>
  have E : Hid (teq x y = false) := Hid.mk' (by unfold teq; rw [e1]; rfl)
  go_enter Tryz.func107, Tryz.ntmps107
  go_wp2_with go_big_skip
  go_ret
  exact ⟨by rw [E.out]; rfl, HB.out⟩
 | true =>
 cases e2 : (x.by_ == y.by_) with
 | false =>
  have E : Hid (teq x y = false) := Hid.mk' (by unfold teq; rw [e2]; simp)
  go_enter Tryz.func107, Tryz.ntmps107
  go_wp2_with go_big_skip
  go_ret
  exact ⟨by rw [E.out]; rfl, HB.out⟩
 | true =>
 cases e3 : (x.nm.toList == y.nm.toList) with
 | false =>
  have E : Hid (teq x y = false) := Hid.mk' (by unfold teq; rw [e3]; simp)
  go_enter Tryz.func107, Tryz.ntmps107
  go_wp2_with go_big_skip
  go_ret
  exact ⟨by rw [E.out]; rfl, HB.out⟩
 | true =>
 cases e4 : (x.sh == y.sh) with
 | false =>
  have E : Hid (teq x y = false) := Hid.mk' (by unfold teq; rw [e4]; simp)
  go_enter Tryz.func107, Tryz.ntmps107
  go_wp2_with go_big_skip
  go_ret
  exact ⟨by rw [E.out]; rfl, HB.out⟩
 | true =>
  have E : Hid (teq x y = sameAs x.at_ y.at_) := Hid.mk' (by unfold teq; rw [e1, e2, e3, e4]; simp)
  go_enter Tryz.func107, Tryz.ntmps107
  go_wp2_with (first | go_big_skip | (go_at_call 119; refine KA.out.mono ?_; rintro e w1 ⟨rfl, hb⟩; have HB := Hid.mk' (HB.out.trans (hb.mono HB.out.size)); clear hb))
  go_ret
  exact ⟨by rw [E.out]; rfl, HB.out⟩
theorem equalTokens_any (a b : Option Addr) (c d : Nat) (l m : List TK) (w : World) (ha : TsAt w a l) (hb : TsAt w b m) (hl : (l.length : Int) + tssz l ≤ 1048576) (hm : (m.length : Int) + tssz m ≤ 1048576) :
  Calls Tryz.prog 106 #[.slice a l.length c, .slice b m.length d, .func (.func 107) #[] #[]] w fun e w' => e = .returned (.bool (sameTs l m)) ∧ Below w.heap.size w w' := by
 have HA := Hid.mk' ha
 have HB := Hid.mk' hb
 clear ha hb
 by_cases hq : l.length = m.length
 rotate_left
 ·have E : Hid (sameTs l m = false) := Hid.mk' (by unfold sameTs; rw [decide_eq_false hq]; rfl)
  have hq' : ¬ (l.length : Int) = m.length := by omega
  go_enter Tryz.func106, Tryz.ntmps106
  go_wp2
  go_ret
  exact ⟨by rw [E.out]; rfl, Below.refl _ _⟩
 have Q := Hid.mk' hq
 have hq' : (l.length : Int) = m.length := by omega
 clear hq
 go_enter Tryz.func106, Tryz.ntmps106
 go_wp2
 go_loopw [17] (fun i wr => ∃ k : Nat, k ≤ l.length ∧ i = .int .i64 k ∧ (∀ j, j < k → teq (tkK l j) (tkK m j) = true) ∧ Below w.heap.size w wr) (fun i _ => l.length - (intOf i).toNat)
 case atStart => exact ⟨0, Nat.zero_le _, rfl, fun j h => absurd h (Nat.not_lt_zero _), Below.refl _ _⟩
 case round =>
  obtain ⟨k, hk, rfl, hn, hbl⟩ := hrel
  have HN := Hid.mk' hn
  have R2 := Hid.mk' hbl
  by_cases hlt : k < l.length
  ·have ci : (k : Int) < (l.length : Int) := by omega
   have ci2 : (k : Int) < (m.length : Int) := by omega
   rcases HA.out.below hbl with ha | ⟨b1, o1, rfl, s1, hc1⟩
   ·exact absurd hlt (by rw [ha]; exact Nat.not_lt_zero _)
   rcases HB.out.below hbl with hb | ⟨b2, o2, rfl, s2, hc2⟩
   ·exact absurd hlt (by rw [Q.out, hb]; exact Nat.not_lt_zero _)
   obtain ⟨x0, x1, x2, ⟨p1, d1, x4, x3⟩, x5⟩ := hc1 k hlt
   obtain ⟨y0, y1, y2, ⟨p2_, d2, y4, y3⟩, y5⟩ := hc2 k (by omega)
   have st := tssz_take l k hlt
   have sl := tssz_le l (k + 1)
   have st2 := tssz_take m k (by omega)
   have sl2 := tssz_le m (k + 1)
   unfold tsz at st st2
   have B0 := ((Below.refl wr.heap.size wr).alloc (Nat.le_refl _) (.cells #[.int .i64 (tkK l k).kd, .int .i64 (tkK l k).by_, .string (tkK l k).nm, .slice p1 (tkK l k).at_.length d1, .bool (tkK l k).sh] 87)).alloc (by simp) (.cells #[.int .i64 (tkK m k).kd, .int .i64 (tkK m k).by_, .string (tkK m k).nm, .slice p2_ (tkK m k).at_.length d2, .bool (tkK m k).sh] 87)
   have KE := Hid.mk' (sameToken_any (tkK l k) (tkK m k) p1 p2_ d1 d2 _ (x3.below B0) (y3.below B0) (by omega) (by omega))
   have R3 := Hid.mk' (R2.out.trans (B0.mono R2.out.size))
   clear hbl hc1 hc2 hn x3 y3 B0 st sl st2 sl2
   cases e1 : teq (tkK l k) (tkK m k) with
   | false =>
    rw [e1] at KE
    have E : Hid (sameTs l m = false) := Hid.mk' (by unfold sameTs; rw [decide_eq_true Q.out, allK_false hlt e1]; rfl)
    go_wp2_with fail
    refine KE.out.mono ?_
    rintro e w1 ⟨rfl, hb1⟩
    have R4 := Hid.mk' (R3.out.trans (hb1.mono R3.out.size))
    clear hb1 KE
    go_wp2
    go_ret
    exact ⟨by rw [E.out]; rfl, R4.out⟩
   | true =>
    rw [e1] at KE
    go_wp2_with fail
    refine KE.out.mono ?_
    rintro e w1 ⟨rfl, hb1⟩
    have R4 := Hid.mk' (R3.out.trans (hb1.mono R3.out.size))
    clear hb1 KE
    go_wp2
    go_roundw
    case rel => exact ⟨k + 1, by omega, by go_num, fun j hj => by
     by_cases h : j = k
     ·subst h; exact e1
     ·exact HN.out j (by omega), R4.out⟩
    case measure => simp [intOf]; omega
  ·have ci : ¬ (k : Int) < (l.length : Int) := by omega
   have e : k = l.length := by omega
   subst e
   have E : Hid (sameTs l m = true) := Hid.mk' (by unfold sameTs; rw [decide_eq_true Q.out, allK_true HN.out]; rfl)
   go_wp2
   go_ret
   exact ⟨by rw [E.out]; rfl, R2.out⟩
theorem implSameT_any (a b : Option Addr) (c d : Nat) (l m : List TK) (w : World) (ha : TsAt w a l) (hb : TsAt w b m) (hl : (l.length : Int) + tssz l ≤ 1048576) (hm : (m.length : Int) + tssz m ≤ 1048576) :
  Calls Tryz.prog 92 #[.slice a l.length c, .slice b m.length d] w fun e w' => e = .returned (.bool (sameTs l m)) ∧ Below w.heap.size w w' := by
 have K := Hid.mk' (equalTokens_any a b c d l m w ha hb hl hm)
 clear ha hb
 go_enter Tryz.func92, Tryz.ntmps92
 go_wp2_with fail
 refine K.out.mono ?_
 rintro e w1 ⟨rfl, hb⟩
 have HB := Hid.mk' hb
 clear hb K
 go_wp2
 go_ret
 exact ⟨rfl, HB.out⟩

end Go.Proofs.YtmhihkdnhaadeaaGreatDoor
