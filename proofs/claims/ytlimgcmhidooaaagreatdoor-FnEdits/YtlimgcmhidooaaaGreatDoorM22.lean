/- Walks: lists of tokens that are the same are told so; the model's SameTokens. -/
import Derived.Test.YtlimgcmhidooaaaGreatDoorM17
import Derived.BigGuard
import Derived.Laws.BytesString
import Derived.Laws.IdiomStrings
import Derived.Test.YtlimgcmhidooaaaGreatDoorM14
import Derived.Test.YtlimgcmhidooaaaGreatDoorM21
set_option maxHeartbeats 8000000
set_option maxRecDepth 100000
set_option linter.unusedVariables false
set_option linter.unusedSimpArgs false
namespace Go.Proofs.YtlimgcmhidooaaaGreatDoor
open Go.RowKit
structure CK where
 pl : Int
 ct : Int
 hd : List Int
def ckK (l : List CK) (k : Nat) : CK := l.getD k ⟨0, 0, []⟩
def CsAt (w : World) (a : Option Addr) (l : List CK) : Prop :=
 l = [] ∨ ∃ b o, a = some ⟨b, o, none⟩ ∧ b < w.heap.size ∧ ∀ k, k < l.length → w.cell? ⟨b, o + k * 3, none⟩ = some (.int .i64 (ckK l k).pl) ∧ w.cell? ⟨b, o + k * 3 + 1, none⟩ = some (.int .i64 (ckK l k).ct) ∧ ∃ p c, w.cell? ⟨b, o + k * 3 + 2, none⟩ = some (.slice p (ckK l k).hd.length c) ∧ BAt w p (ckK l k).hd
theorem CsAt.below {w w' : World} {a : Option Addr} {l : List CK} (h : CsAt w a l) (hb : Below w.heap.size w w') : CsAt w' a l := by
 rcases h with h | ⟨b, o, e, hs, hc⟩
 ·exact .inl h
 ·refine .inr ⟨b, o, e, Nat.lt_of_lt_of_le hs hb.size, fun k hk => ?_⟩
  obtain ⟨h1, h2, p, c, h3, h4⟩ := hc k hk
  exact ⟨(hb.cell hs).trans h1, (hb.cell hs).trans h2, p, c, (hb.cell hs).trans h3, h4.below hb⟩
def csz : List CK → Nat
 | [] => 0
 | x :: r => x.hd.length + csz r
theorem Tryz.info31 : (Tryz.prog.info? 31).map (fun i => (i.zero, i.size, i.bytes)) = some (some (.agg #[.int .i64 0, .int .i64 0, .slice none 0 0]), 3, 40) := by kernel_rfl
theorem make_checks {P : Program} (t e : TypeId) (ht : P.underlying t = some (.slice e)) (hinfo : (P.info? e).map (fun i => (i.zero, i.size, i.bytes)) = some (some (.agg #[.int .i64 0, .int .i64 0, .slice none 0 0]), 3, 40))
  (n : Nat) (hn : (n : Int) ≤ 1048576) (w : World) :
  (Instr.makeSlice t (.int .i64 (n : Int)) (.int .i64 (n : Int))).run P w = .ok (.slice (some ⟨w.heap.size, 0, none⟩) n n) (w.alloc (.cells (madeCells #[.int .i64 0, .int .i64 0, .slice none 0 0] (n * 3)) e)) := by
 obtain ⟨i, hi, hzz⟩ := Option.map_eq_some_iff.1 hinfo
 simp only [Prod.mk.injEq] at hzz
 obtain ⟨hz, hs, hb⟩ := hzz
 have hr := run_make (P := P) w t e i _ ht hi hz .i64 .i64 n n (by omega) (Int.le_refl _) (by rw [hb]; omega) (by omega)
 simp only [Int.toNat_natCast, hs] at hr
 exact hr
structure ME where
 dt : List Int
 st : Int
 tk : List TK
 hd : List Int
 cs : List CK
def MAt (w : World) (a t u c : Option Addr) (m : ME) : Prop := BAt w a m.dt ∧ TsAt w t m.tk ∧ BAt w u m.hd ∧ CsAt w c m.cs
theorem MAt.below {w w' : World} {a t u c : Option Addr} {m : ME} (x : MAt w a t u c m) (hb : Below w.heap.size w w') : MAt w' a t u c m :=
 ⟨x.1.below hb, x.2.1.below hb, x.2.2.1.below hb, x.2.2.2.below hb⟩
def msz (m : ME) : Nat := m.dt.length + m.tk.length + tssz m.tk + m.hd.length + m.cs.length + csz m.cs
def allK (n : Nat) (p : Nat → Bool) : Bool := (List.range n).all p
theorem allK_true {n : Nat} {p : Nat → Bool} (h : ∀ k, k < n → p k = true) : allK n p = true := by
 unfold allK; rw [List.all_eq_true]; intro k hk; exact h k (List.mem_range.1 hk)
theorem allK_false {n k : Nat} {p : Nat → Bool} (hk : k < n) (h : p k = false) : allK n p = false := by
 rw [Bool.eq_false_iff]; intro e
 unfold allK at e; rw [List.all_eq_true] at e
 rw [e k (List.mem_range.2 hk)] at h; cases h
def aeq (x y : AT) : Bool := (x.nm.toList == y.nm.toList) && ((strI x.vl).toList == (strI y.vl).toList)
def sameAs (l m : List AT) : Bool := decide (l.length = m.length) && allK l.length (fun k => aeq (atK l k) (atK m k))
def teq (x y : TK) : Bool := (x.kd == y.kd) && (x.by_ == y.by_) && (x.nm.toList == y.nm.toList) && (x.sh == y.sh) && sameAs x.at_ y.at_
def sameTs (l m : List TK) : Bool := decide (l.length = m.length) && allK l.length (fun k => teq (tkK l k) (tkK m k))
theorem l4SameAttrs_any (a b : Option Addr) (c d : Nat) (l m : List AT) (w : World) (ha : AAt w a l) (hb : AAt w b m) (hl : (l.length : Int) + asz l ≤ 1048576) (hm : (m.length : Int) + asz m ≤ 1048576) :
  Calls Tryz.prog 113 #[.slice a l.length c, .slice b m.length d] w fun e w' => e = .returned (.bool (sameAs l m)) ∧ Below w.heap.size w w' := by
 have HA := Hid.mk' ha
 have HB := Hid.mk' hb
 clear ha hb
 by_cases hq : l.length = m.length
 rotate_left
 ·have E : Hid (sameAs l m = false) := Hid.mk' (by unfold sameAs; rw [decide_eq_false hq]; rfl)
  have hq' : ¬ (l.length : Int) = m.length := by omega
  go_enter Tryz.func113, Tryz.ntmps113
  go_wp2
  go_ret
  exact ⟨by rw [E.out]; rfl, Below.refl _ _⟩
 have Q := Hid.mk' hq
 have hq' : (l.length : Int) = m.length := by omega
 clear hq
 go_enter Tryz.func113, Tryz.ntmps113
 go_wp2
 go_loopw [5] (fun i wr => ∃ k : Nat, k ≤ l.length ∧ i = .int .i64 k ∧ (∀ j, j < k → aeq (atK l j) (atK m j) = true) ∧ Below w.heap.size w wr) (fun i _ => l.length - (intOf i).toNat)
 case atStart => exact ⟨0, Nat.zero_le _, rfl, fun j h => absurd h (Nat.not_lt_zero _), Below.refl _ _⟩
 case round =>
  obtain ⟨k, hk, rfl, hn, hbl⟩ := hrel
  have HN := Hid.mk' hn
  have R2 := Hid.mk' hbl
  by_cases hlt : k < l.length
  ·have ci : (k : Int) < (l.length : Int) := by omega
   have ci2 : (k : Int) < (m.length : Int) := by omega
   rcases HA.out.below hbl with ha | ⟨b1, o1, rfl, s1, hc1⟩
   ·exact absurd hlt (by rw [ha]; exact Nat.not_lt_zero _)
   rcases HB.out.below hbl with hb | ⟨b2, o2, rfl, s2, hc2⟩
   ·exact absurd hlt (by rw [Q.out, hb]; exact Nat.not_lt_zero _)
   obtain ⟨x1, p1, d1, x2, x3⟩ := hc1 k hlt
   obtain ⟨y1, p2_, d2, y2, y3⟩ := hc2 k (by omega)
   have X3 := Hid.mk' x3
   have Y3 := Hid.mk' y3
   have P0 : Hid (aeq (atK l k) (atK m k) = (((atK l k).nm.toList == (atK m k).nm.toList) && ((strI (atK l k).vl).toList == (strI (atK m k).vl).toList))) := Hid.mk' rfl
   clear hbl hc1 hc2 x3 y3 hn
   cases e1 : ((atK l k).nm.toList == (atK m k).nm.toList) with
   | false =>
    have E : Hid (sameAs l m = false) := Hid.mk' (by unfold sameAs; rw [decide_eq_true Q.out, allK_false hlt (by rw [P0.out, e1]; rfl)]; rfl)
    go_wp2
    go_quiet (fail)
    go_wp2
    go_ret
    exact ⟨by rw [E.out]; rfl, R2.out.trans ⟨rfl, rfl, rfl, Nat.le_refl _, fun _ _ => rfl⟩⟩
   | true =>
    cases e2 : ((strI (atK l k).vl).toList == (strI (atK m k).vl).toList) with
    | false =>
     have E : Hid (sameAs l m = false) := Hid.mk' (by unfold sameAs; rw [decide_eq_true Q.out, allK_false hlt (by rw [P0.out, e1, e2]; rfl)]; rfl)
     go_wp2
     refine wp_region_held_drew (S := (fun w' => w'.cell? ⟨b1, o1 + k * 2, none⟩ = some (.string (atK l k).nm) ∧ w'.cell? ⟨b1, o1 + k * 2 + 1, none⟩ = some (.slice p1 (atK l k).vl.length d1) ∧ w'.cell? ⟨b2, o2 + k * 2, none⟩ = some (.string (atK m k).nm) ∧ w'.cell? ⟨b2, o2 + k * 2 + 1, none⟩ = some (.slice p2_ (atK m k).vl.length d2) ∧ Hid (BAt w' p1 (atK l k).vl) ∧ Hid (BAt w' p2_ (atK m k).vl))) (by kernel_rfl) (by refine ⟨by simp [*], by simp [*], by simp [*], by simp [*], X3.out.below (Below.refl _ _).drew, Y3.out.below (Below.refl _ _).drew⟩) (fun hHeld => ?_)
     refine tkY 0 ?_
     refine tkY 1 ?_
     refine tkY 2 ?_
     refine tkY 3 ?_
     refine tkY 4 ?_
     refine tkY 5 ?_
     refine tkY 6 ?_
     refine tkY 7 ?_
     refine tkY 8 ?_
     refine tkY 9 ?_
     refine tkY 10 ?_
     refine tkY 11 ?_
     refine tkY 12 ?_
     refine tkY 13 ?_
     refine tkY 14 ?_
     refine tkY 15 ?_
     refine tkY 16 ?_
     refine wpAnyH_take (i := 17) (oi := ⟨_, _, _, _, _, _⟩) (v := .string (strI (atK l k).vl)) rfl (by kernel_rfl) (by kernel_rfl) (by kernel_rfl) (fun _ _ _ h => h) (Or.inl ⟨by rfl, ?_⟩) (by assumption) ?_
     ·(intro w hSw; have hcv := conv_bytesT d1 hSw.2.2.2.2.1.out; clear hSw; go_simp; (try with_reducible rfl))
     try simp only [Act.put, zA, zB, zC]
     refine tkY 18 ?_
     refine tkY 19 ?_
     refine tkY 20 ?_
     refine tkY 21 ?_
     refine tkY 22 ?_
     refine wpAnyH_take (i := 23) (oi := ⟨_, _, _, _, _, _⟩) (v := .string (strI (atK m k).vl)) rfl (by kernel_rfl) (by kernel_rfl) (by kernel_rfl) (fun _ _ _ h => h) (Or.inl ⟨by rfl, ?_⟩) (by assumption) ?_
     ·(intro w hSw; have hcv := conv_bytesT d2 hSw.2.2.2.2.2.out; clear hSw; go_simp; (try with_reducible rfl))
     try simp only [Act.put, zA, zB, zC]
     refine tkY 24 ?_
     refine tkY 25 ?_
     refine wpAnyH_done (by kernel_rfl) ?_ _
     go_wp2
     go_ret
     exact ⟨by rw [E.out]; rfl, R2.out.drew⟩
    | true =>
     have E : Hid (aeq (atK l k) (atK m k) = true) := Hid.mk' (by rw [P0.out, e1, e2]; rfl)
     go_wp2
     refine wp_region_held_drew (S := (fun w' => w'.cell? ⟨b1, o1 + k * 2, none⟩ = some (.string (atK l k).nm) ∧ w'.cell? ⟨b1, o1 + k * 2 + 1, none⟩ = some (.slice p1 (atK l k).vl.length d1) ∧ w'.cell? ⟨b2, o2 + k * 2, none⟩ = some (.string (atK m k).nm) ∧ w'.cell? ⟨b2, o2 + k * 2 + 1, none⟩ = some (.slice p2_ (atK m k).vl.length d2) ∧ Hid (BAt w' p1 (atK l k).vl) ∧ Hid (BAt w' p2_ (atK m k).vl))) (by kernel_rfl) (by refine ⟨by simp [*], by simp [*], by simp [*], by simp [*], X3.out.below (Below.refl _ _).drew, Y3.out.below (Below.refl _ _).drew⟩) (fun hHeld => ?_)
     refine tkY 0 ?_
     refine tkY 1 ?_
     refine tkY 2 ?_
     refine tkY 3 ?_
     refine tkY 4 ?_
     refine tkY 5 ?_
     refine tkY 6 ?_
     refine tkY 7 ?_
     refine tkY 8 ?_
     refine tkY 9 ?_
     refine tkY 10 ?_
     refine tkY 11 ?_
     refine tkY 12 ?_
     refine tkY 13 ?_
     refine tkY 14 ?_
     refine tkY 15 ?_
     refine tkY 16 ?_
     refine wpAnyH_take (i := 17) (oi := ⟨_, _, _, _, _, _⟩) (v := .string (strI (atK l k).vl)) rfl (by kernel_rfl) (by kernel_rfl) (by kernel_rfl) (fun _ _ _ h => h) (Or.inl ⟨by rfl, ?_⟩) (by assumption) ?_
     ·(intro w hSw; have hcv := conv_bytesT d1 hSw.2.2.2.2.1.out; clear hSw; go_simp; (try with_reducible rfl))
     try simp only [Act.put, zA, zB, zC]
     refine tkY 18 ?_
     refine tkY 19 ?_
     refine tkY 20 ?_
     refine tkY 21 ?_
     refine tkY 22 ?_
     refine wpAnyH_take (i := 23) (oi := ⟨_, _, _, _, _, _⟩) (v := .string (strI (atK m k).vl)) rfl (by kernel_rfl) (by kernel_rfl) (by kernel_rfl) (fun _ _ _ h => h) (Or.inl ⟨by rfl, ?_⟩) (by assumption) ?_
     ·(intro w hSw; have hcv := conv_bytesT d2 hSw.2.2.2.2.2.out; clear hSw; go_simp; (try with_reducible rfl))
     try simp only [Act.put, zA, zB, zC]
     refine tkY 24 ?_
     refine tkY 25 ?_
     refine wpAnyH_done (by kernel_rfl) ?_ _
     go_wp2
     go_roundw
     case rel => exact ⟨k + 1, by omega, by go_num, fun j hj => by
      by_cases h : j = k
      ·subst h; exact E.out
      ·exact HN.out j (by omega), R2.out.drew⟩
     case measure => simp [intOf]; omega
  ·have ci : ¬ (k : Int) < (l.length : Int) := by omega
   have e : k = l.length := by omega
   subst e
   have E : Hid (sameAs l m = true) := Hid.mk' (by unfold sameAs; rw [decide_eq_true Q.out, allK_true HN.out]; rfl)
   go_wp2
   go_ret
   exact ⟨by rw [E.out]; rfl, R2.out⟩
theorem l4Same_any (x y : TK) (b1 o1 b2 o2 : Nat) (p1 p2_ : Option Addr) (d1 d2 : Nat) (w : World)
  (x0 : w.cell? ⟨b1, o1, none⟩ = some (.int .i64 x.kd)) (x1 : w.cell? ⟨b1, o1 + 1, none⟩ = some (.int .i64 x.by_)) (x2 : w.cell? ⟨b1, o1 + 2, none⟩ = some (.string x.nm)) (x3 : w.cell? ⟨b1, o1 + 3, none⟩ = some (.slice p1 x.at_.length d1)) (x4 : w.cell? ⟨b1, o1 + 4, none⟩ = some (.bool x.sh)) (x5 : AAt w p1 x.at_)
  (y0 : w.cell? ⟨b2, o2, none⟩ = some (.int .i64 y.kd)) (y1 : w.cell? ⟨b2, o2 + 1, none⟩ = some (.int .i64 y.by_)) (y2 : w.cell? ⟨b2, o2 + 2, none⟩ = some (.string y.nm)) (y3 : w.cell? ⟨b2, o2 + 3, none⟩ = some (.slice p2_ y.at_.length d2)) (y4 : w.cell? ⟨b2, o2 + 4, none⟩ = some (.bool y.sh)) (y5 : AAt w p2_ y.at_)
  (hx : (x.at_.length : Int) + asz x.at_ ≤ 1048576) (hy : (y.at_.length : Int) + asz y.at_ ≤ 1048576) :
  Calls Tryz.prog 100 #[.pointer (some ⟨b1, o1, none⟩), .pointer (some ⟨b2, o2, none⟩)] w fun e w' => e = .returned (.bool (teq x y)) ∧ Below w.heap.size w w' := by
 have KA := Hid.mk' (l4SameAttrs_any p1 p2_ d1 d2 x.at_ y.at_ w.drew (x5.below (Below.refl _ _).drew) (y5.below (Below.refl _ _).drew) hx hy)
 clear x5 y5
 by_cases e1 : x.kd = y.kd
 rotate_left
 ·have E : Hid (teq x y = false) := Hid.mk' (by unfold teq; rw [show (x.kd == y.kd) = false by simp [e1]]; rfl)
  have e1b : (x.kd == y.kd) = false := by simp [e1]
  clear e1
  go_enter Tryz.func100, Tryz.ntmps100
  go_wp2
  refine wp_region_held_drew (S := (fun w' => w'.cell? ⟨b1, o1, none⟩ = some (.int .i64 x.kd) ∧ w'.cell? ⟨b1, o1 + 1, none⟩ = some (.int .i64 x.by_) ∧ w'.cell? ⟨b1, o1 + 2, none⟩ = some (.string x.nm) ∧ w'.cell? ⟨b1, o1 + 3, none⟩ = some (.slice p1 x.at_.length d1) ∧ w'.cell? ⟨b1, o1 + 4, none⟩ = some (.bool x.sh) ∧ w'.cell? ⟨b2, o2, none⟩ = some (.int .i64 y.kd) ∧ w'.cell? ⟨b2, o2 + 1, none⟩ = some (.int .i64 y.by_) ∧ w'.cell? ⟨b2, o2 + 2, none⟩ = some (.string y.nm) ∧ w'.cell? ⟨b2, o2 + 3, none⟩ = some (.slice p2_ y.at_.length d2) ∧ w'.cell? ⟨b2, o2 + 4, none⟩ = some (.bool y.sh))) (by kernel_rfl) (by simp [*]) (fun hHeld => ?_)
  refine tkY 0 ?_
  refine tkY 1 ?_
  refine tkY 2 ?_
  refine tkY 3 ?_
  refine tkY 4 ?_
  refine tkY 5 ?_
  refine tkY 6 ?_
  refine tkY 7 ?_
  refine tkY 8 ?_
  refine tkY 9 ?_
  refine tkU 10 ?_
  refine tkU 11 ?_
  refine tkU 12 ?_
  refine tkU 13 ?_
  refine tkU 14 ?_
  refine tkU 15 ?_
  refine tkU 16 ?_
  refine tkU 17 ?_
  refine tkU 18 ?_
  refine tkY 19 ?_
  refine tkY 20 ?_
  refine tkU 21 ?_
  refine tkU 22 ?_
  refine tkU 23 ?_
  refine tkU 24 ?_
  refine tkU 25 ?_
  refine tkU 26 ?_
  refine tkU 27 ?_
  refine tkU 28 ?_
  refine tkU 29 ?_
  refine tkY 30 ?_
  refine tkY 31 ?_
  refine tkU 32 ?_
  refine tkU 33 ?_
  refine tkU 34 ?_
  refine tkU 35 ?_
  refine tkU 36 ?_
  refine tkU 37 ?_
  refine tkU 38 ?_
  refine tkU 39 ?_
  refine tkU 40 ?_
  refine tkY 41 ?_
  refine tkY 42 ?_
  refine tkU 43 ?_
  refine tkU 44 ?_
  refine tkU 45 ?_
  refine tkU 46 ?_
  refine tkU 47 ?_
  refine tkU 48 ?_
  refine tkU 49 ?_
  refine tkU 50 ?_
  refine tkU 51 ?_
  refine tkY 52 ?_
  refine tkY 53 ?_
  refine wpAnyH_done (by kernel_rfl) ?_ _
  go_wp2
  go_ret
  exact ⟨by rw [E.out]; rfl, (Below.refl _ _).drew⟩
 by_cases e2 : x.by_ = y.by_
 rotate_left
 ·have E : Hid (teq x y = false) := Hid.mk' (by unfold teq; rw [show (x.by_ == y.by_) = false by simp [e2]]; simp)
  have e2b : (x.by_ == y.by_) = false := by simp [e2]
  clear e2
  rw [e1] at x0
  clear e1
  go_enter Tryz.func100, Tryz.ntmps100
  go_wp2
  refine wp_region_held_drew (S := (fun w' => w'.cell? ⟨b1, o1, none⟩ = some (.int .i64 y.kd) ∧ w'.cell? ⟨b1, o1 + 1, none⟩ = some (.int .i64 x.by_) ∧ w'.cell? ⟨b1, o1 + 2, none⟩ = some (.string x.nm) ∧ w'.cell? ⟨b1, o1 + 3, none⟩ = some (.slice p1 x.at_.length d1) ∧ w'.cell? ⟨b1, o1 + 4, none⟩ = some (.bool x.sh) ∧ w'.cell? ⟨b2, o2, none⟩ = some (.int .i64 y.kd) ∧ w'.cell? ⟨b2, o2 + 1, none⟩ = some (.int .i64 y.by_) ∧ w'.cell? ⟨b2, o2 + 2, none⟩ = some (.string y.nm) ∧ w'.cell? ⟨b2, o2 + 3, none⟩ = some (.slice p2_ y.at_.length d2) ∧ w'.cell? ⟨b2, o2 + 4, none⟩ = some (.bool y.sh))) (by kernel_rfl) (by simp [*]) (fun hHeld => ?_)
  refine tkY 0 ?_
  refine tkY 1 ?_
  refine tkY 2 ?_
  refine tkY 3 ?_
  refine tkY 4 ?_
  refine tkY 5 ?_
  refine tkY 6 ?_
  refine tkY 7 ?_
  refine tkY 8 ?_
  refine tkY 9 ?_
  refine tkY 10 ?_
  refine tkY 11 ?_
  refine tkY 12 ?_
  refine tkY 13 ?_
  refine tkY 14 ?_
  refine tkY 15 ?_
  refine tkY 16 ?_
  refine tkY 17 ?_
  refine tkY 18 ?_
  refine tkY 19 ?_
  refine tkY 20 ?_
  refine tkU 21 ?_
  refine tkU 22 ?_
  refine tkU 23 ?_
  refine tkU 24 ?_
  refine tkU 25 ?_
  refine tkU 26 ?_
  refine tkU 27 ?_
  refine tkU 28 ?_
  refine tkU 29 ?_
  refine tkY 30 ?_
  refine tkY 31 ?_
  refine tkU 32 ?_
  refine tkU 33 ?_
  refine tkU 34 ?_
  refine tkU 35 ?_
  refine tkU 36 ?_
  refine tkU 37 ?_
  refine tkU 38 ?_
  refine tkU 39 ?_
  refine tkU 40 ?_
  refine tkY 41 ?_
  refine tkY 42 ?_
  refine tkU 43 ?_
  refine tkU 44 ?_
  refine tkU 45 ?_
  refine tkU 46 ?_
  refine tkU 47 ?_
  refine tkU 48 ?_
  refine tkU 49 ?_
  refine tkU 50 ?_
  refine tkU 51 ?_
  refine tkY 52 ?_
  refine tkY 53 ?_
  refine wpAnyH_done (by kernel_rfl) ?_ _
  go_wp2
  go_ret
  exact ⟨by rw [E.out]; rfl, (Below.refl _ _).drew⟩
 cases e3 : (x.nm.toList == y.nm.toList) with
 | false =>
  have E : Hid (teq x y = false) := Hid.mk' (by unfold teq; rw [e3]; simp)
  rw [e1] at x0
  rw [e2] at x1
  clear e1 e2
  go_enter Tryz.func100, Tryz.ntmps100
  go_wp2
  refine wp_region_held_drew (S := (fun w' => w'.cell? ⟨b1, o1, none⟩ = some (.int .i64 y.kd) ∧ w'.cell? ⟨b1, o1 + 1, none⟩ = some (.int .i64 y.by_) ∧ w'.cell? ⟨b1, o1 + 2, none⟩ = some (.string x.nm) ∧ w'.cell? ⟨b1, o1 + 3, none⟩ = some (.slice p1 x.at_.length d1) ∧ w'.cell? ⟨b1, o1 + 4, none⟩ = some (.bool x.sh) ∧ w'.cell? ⟨b2, o2, none⟩ = some (.int .i64 y.kd) ∧ w'.cell? ⟨b2, o2 + 1, none⟩ = some (.int .i64 y.by_) ∧ w'.cell? ⟨b2, o2 + 2, none⟩ = some (.string y.nm) ∧ w'.cell? ⟨b2, o2 + 3, none⟩ = some (.slice p2_ y.at_.length d2) ∧ w'.cell? ⟨b2, o2 + 4, none⟩ = some (.bool y.sh))) (by kernel_rfl) (by simp [*]) (fun hHeld => ?_)
  refine tkY 0 ?_
  refine tkY 1 ?_
  refine tkY 2 ?_
  refine tkY 3 ?_
  refine tkY 4 ?_
  refine tkY 5 ?_
  refine tkY 6 ?_
  refine tkY 7 ?_
  refine tkY 8 ?_
  refine tkY 9 ?_
  refine tkY 10 ?_
  refine tkY 11 ?_
  refine tkY 12 ?_
  refine tkY 13 ?_
  refine tkY 14 ?_
  refine tkY 15 ?_
  refine tkY 16 ?_
  refine tkY 17 ?_
  refine tkY 18 ?_
  refine tkY 19 ?_
  refine tkY 20 ?_
  refine tkY 21 ?_
  refine tkY 22 ?_
  refine tkY 23 ?_
  refine tkY 24 ?_
  refine tkY 25 ?_
  refine tkY 26 ?_
  refine tkY 27 ?_
  refine tkY 28 ?_
  refine tkY 29 ?_
  refine tkY 30 ?_
  refine tkY 31 ?_
  refine tkU 32 ?_
  refine tkU 33 ?_
  refine tkU 34 ?_
  refine tkU 35 ?_
  refine tkU 36 ?_
  refine tkU 37 ?_
  refine tkU 38 ?_
  refine tkU 39 ?_
  refine tkU 40 ?_
  refine tkY 41 ?_
  refine tkY 42 ?_
  refine tkU 43 ?_
  refine tkU 44 ?_
  refine tkU 45 ?_
  refine tkU 46 ?_
  refine tkU 47 ?_
  refine tkU 48 ?_
  refine tkU 49 ?_
  refine tkU 50 ?_
  refine tkU 51 ?_
  refine tkY 52 ?_
  refine tkY 53 ?_
  refine wpAnyH_done (by kernel_rfl) ?_ _
  go_wp2
  go_ret
  exact ⟨by rw [E.out]; rfl, (Below.refl _ _).drew⟩
 | true =>
  by_cases e4 : x.sh = y.sh
  rotate_left
  ·have E : Hid (teq x y = false) := Hid.mk' (by unfold teq; rw [show (x.sh == y.sh) = false by simp [e4]]; simp)
   have e5 : (x.sh == y.sh) = false := by simp [e4]
   rw [e1] at x0
   rw [e2] at x1
   clear e1 e2 e4
   go_enter Tryz.func100, Tryz.ntmps100
   go_wp2
   refine wp_region_held_drew (S := (fun w' => w'.cell? ⟨b1, o1, none⟩ = some (.int .i64 y.kd) ∧ w'.cell? ⟨b1, o1 + 1, none⟩ = some (.int .i64 y.by_) ∧ w'.cell? ⟨b1, o1 + 2, none⟩ = some (.string x.nm) ∧ w'.cell? ⟨b1, o1 + 3, none⟩ = some (.slice p1 x.at_.length d1) ∧ w'.cell? ⟨b1, o1 + 4, none⟩ = some (.bool x.sh) ∧ w'.cell? ⟨b2, o2, none⟩ = some (.int .i64 y.kd) ∧ w'.cell? ⟨b2, o2 + 1, none⟩ = some (.int .i64 y.by_) ∧ w'.cell? ⟨b2, o2 + 2, none⟩ = some (.string y.nm) ∧ w'.cell? ⟨b2, o2 + 3, none⟩ = some (.slice p2_ y.at_.length d2) ∧ w'.cell? ⟨b2, o2 + 4, none⟩ = some (.bool y.sh))) (by kernel_rfl) (by simp [*]) (fun hHeld => ?_)
   refine tkY 0 ?_
   refine tkY 1 ?_
   refine tkY 2 ?_
   refine tkY 3 ?_
   refine tkY 4 ?_
   refine tkY 5 ?_
   refine tkY 6 ?_
   refine tkY 7 ?_
   refine tkY 8 ?_
   refine tkY 9 ?_
   refine tkY 10 ?_
   refine tkY 11 ?_
   refine tkY 12 ?_
   refine tkY 13 ?_
   refine tkY 14 ?_
   refine tkY 15 ?_
   refine tkY 16 ?_
   refine tkY 17 ?_
   refine tkY 18 ?_
   refine tkY 19 ?_
   refine tkY 20 ?_
   refine tkY 21 ?_
   refine tkY 22 ?_
   refine tkY 23 ?_
   refine tkY 24 ?_
   refine tkY 25 ?_
   refine tkY 26 ?_
   refine tkY 27 ?_
   refine tkY 28 ?_
   refine tkY 29 ?_
   refine tkY 30 ?_
   refine tkY 31 ?_
   refine tkY 32 ?_
   refine tkY 33 ?_
   refine tkY 34 ?_
   refine tkY 35 ?_
   refine tkY 36 ?_
   refine tkY 37 ?_
   refine tkY 38 ?_
   refine tkY 39 ?_
   refine tkY 40 ?_
   refine tkY 41 ?_
   refine tkY 42 ?_
   refine tkU 43 ?_
   refine tkU 44 ?_
   refine tkU 45 ?_
   refine tkU 46 ?_
   refine tkU 47 ?_
   refine tkU 48 ?_
   refine tkU 49 ?_
   refine tkU 50 ?_
   refine tkU 51 ?_
   refine tkY 52 ?_
   refine tkY 53 ?_
   refine wpAnyH_done (by kernel_rfl) ?_ _
   go_wp2
   go_ret
   exact ⟨by rw [E.out]; rfl, (Below.refl _ _).drew⟩
  ·have E : Hid (teq x y = sameAs x.at_ y.at_) := Hid.mk' (by unfold teq; rw [e3, e1, e2, e4]; simp)
   rw [e1] at x0
   rw [e2] at x1
   rw [e4] at x4
   clear e1 e2 e4
   go_enter Tryz.func100, Tryz.ntmps100
   go_wp2
   refine wp_region_held_drew (S := (fun w' => w'.cell? ⟨b1, o1, none⟩ = some (.int .i64 y.kd) ∧ w'.cell? ⟨b1, o1 + 1, none⟩ = some (.int .i64 y.by_) ∧ w'.cell? ⟨b1, o1 + 2, none⟩ = some (.string x.nm) ∧ w'.cell? ⟨b1, o1 + 3, none⟩ = some (.slice p1 x.at_.length d1) ∧ w'.cell? ⟨b1, o1 + 4, none⟩ = some (.bool y.sh) ∧ w'.cell? ⟨b2, o2, none⟩ = some (.int .i64 y.kd) ∧ w'.cell? ⟨b2, o2 + 1, none⟩ = some (.int .i64 y.by_) ∧ w'.cell? ⟨b2, o2 + 2, none⟩ = some (.string y.nm) ∧ w'.cell? ⟨b2, o2 + 3, none⟩ = some (.slice p2_ y.at_.length d2) ∧ w'.cell? ⟨b2, o2 + 4, none⟩ = some (.bool y.sh))) (by kernel_rfl) (by simp [*]) (fun hHeld => ?_)
   refine tkY 0 ?_
   refine tkY 1 ?_
   refine tkY 2 ?_
   refine tkY 3 ?_
   refine tkY 4 ?_
   refine tkY 5 ?_
   refine tkY 6 ?_
   refine tkY 7 ?_
   refine tkY 8 ?_
   refine tkY 9 ?_
   refine tkY 10 ?_
   refine tkY 11 ?_
   refine tkY 12 ?_
   refine tkY 13 ?_
   refine tkY 14 ?_
   refine tkY 15 ?_
   refine tkY 16 ?_
   refine tkY 17 ?_
   refine tkY 18 ?_
   refine tkY 19 ?_
   refine tkY 20 ?_
   refine tkY 21 ?_
   refine tkY 22 ?_
   refine tkY 23 ?_
   refine tkY 24 ?_
   refine tkY 25 ?_
   refine tkY 26 ?_
   refine tkY 27 ?_
   refine tkY 28 ?_
   refine tkY 29 ?_
   refine tkY 30 ?_
   refine tkY 31 ?_
   refine tkY 32 ?_
   refine tkY 33 ?_
   refine tkY 34 ?_
   refine tkY 35 ?_
   refine tkY 36 ?_
   refine tkY 37 ?_
   refine tkY 38 ?_
   refine tkY 39 ?_
   refine tkY 40 ?_
   refine tkY 41 ?_
   refine tkY 42 ?_
   refine tkY 43 ?_
   refine tkY 44 ?_
   refine tkY 45 ?_
   refine tkY 46 ?_
   refine tkY 47 ?_
   refine tkY 48 ?_
   refine tkY 49 ?_
   refine tkY 50 ?_
   refine wpAnyH_ready (rs := [51]) (by kernel_rfl) (by simp) ?_
   refine AllReadyH.cons (o := ⟨_, _, _, _, _, _⟩) rfl (fun K hK => ?_) AllReadyH.nil
   go_simp
   go_at_call 113; refine KA.out.mono ?_; rintro e w1 ⟨rfl, hb⟩; have HB := Hid.mk' (undrew hb); obtain ⟨hx_, hy_⟩ := bcell HB.out; have g1 := World.block_lt_of_cell? _ _ x0; have g2 := World.block_lt_of_cell? _ _ y0; clear hb
   refine hK.out _ _ (by (try dsimp only); simp [*]) (fun hHeld => ?_)
   clear hK K
   try clear hx hy
   try simp only [Act.put, zA, zB, zC]
   refine tkY 52 ?_
   refine tkY 53 ?_
   refine wpAnyH_done (by kernel_rfl) ?_ _
   go_wp2
   go_ret
   exact ⟨by rw [E.out]; simp, HB.out⟩
theorem specSame_any (a b : Option Addr) (c d : Nat) (l m : List TK) (w : World) (ha : TsAt w a l) (hb : TsAt w b m) (hl : (l.length : Int) + tssz l ≤ 1048576) (hm : (m.length : Int) + tssz m ≤ 1048576) :
  Calls Tryz.prog 80 #[.slice a l.length c, .slice b m.length d] w fun e w' => e = .returned (.bool (sameTs l m)) ∧ Below w.heap.size w w' := by
 have HA := Hid.mk' ha
 have HB := Hid.mk' hb
 clear ha hb
 by_cases hq : l.length = m.length
 rotate_left
 ·have E : Hid (sameTs l m = false) := Hid.mk' (by unfold sameTs; rw [decide_eq_false hq]; rfl)
  have hq' : ¬ (l.length : Int) = m.length := by omega
  go_enter Tryz.func80, Tryz.ntmps80
  go_wp2
  go_ret
  exact ⟨by rw [E.out]; rfl, Below.refl _ _⟩
 have Q := Hid.mk' hq
 have hq' : (l.length : Int) = m.length := by omega
 clear hq
 go_enter Tryz.func80, Tryz.ntmps80
 go_wp2
 go_loopw [5] (fun i wr => ∃ k : Nat, k ≤ l.length ∧ i = .int .i64 k ∧ (∀ j, j < k → teq (tkK l j) (tkK m j) = true) ∧ Below w.heap.size w wr) (fun i _ => l.length - (intOf i).toNat)
 case atStart => exact ⟨0, Nat.zero_le _, rfl, fun j h => absurd h (Nat.not_lt_zero _), Below.refl _ _⟩
 case round =>
  obtain ⟨k, hk, rfl, hn, hbl⟩ := hrel
  have HN := Hid.mk' hn
  have R2 := Hid.mk' hbl
  by_cases hlt : k < l.length
  ·have ci : (k : Int) < (l.length : Int) := by omega
   have ci2 : (k : Int) < (m.length : Int) := by omega
   rcases HA.out.below hbl with ha | ⟨b1, o1, rfl, s1, hc1⟩
   ·exact absurd hlt (by rw [ha]; exact Nat.not_lt_zero _)
   rcases HB.out.below hbl with hb | ⟨b2, o2, rfl, s2, hc2⟩
   ·exact absurd hlt (by rw [Q.out, hb]; exact Nat.not_lt_zero _)
   obtain ⟨x0, x1, x2, ⟨p1, d1, x3, x5⟩, x4⟩ := hc1 k hlt
   obtain ⟨y0, y1, y2, ⟨p2_, d2, y3, y5⟩, y4⟩ := hc2 k (by omega)
   have st := tssz_take l k hlt
   have sl := tssz_le l (k + 1)
   have st2 := tssz_take m k (by omega)
   have sl2 := tssz_le m (k + 1)
   unfold tsz at st st2
   have D := (Below.refl wr.heap.size wr).drew
   have KE := Hid.mk' (l4Same_any (tkK l k) (tkK m k) b1 (o1 + k * 5) b2 (o2 + k * 5) p1 p2_ d1 d2 wr.drew x0 x1 x2 x3 x4 (x5.below D) y0 y1 y2 y3 y4 (y5.below D) (by omega) (by omega))
   clear hbl hc1 hc2 hn x5 y5 st sl st2 sl2 D x0 x1 x2 x3 x4 y0 y1 y2 y3 y4
   cases e1 : teq (tkK l k) (tkK m k) with
   | false =>
    rw [e1] at KE
    have E : Hid (sameTs l m = false) := Hid.mk' (by unfold sameTs; rw [decide_eq_true Q.out, allK_false hlt e1]; rfl)
    go_wp2
    go_region_held3 (fun w' => True) (simp [*])
     ((go_at_call 100; refine KE.out.mono ?_; rintro e w1 ⟨rfl, hb1⟩; replace hb1 := undrew hb1))
    go_wp2
    go_ret
    exact ⟨by rw [E.out]; rfl, R2.out.trans (hb1.mono R2.out.size)⟩
   | true =>
    rw [e1] at KE
    go_wp2
    go_region_held3 (fun w' => True) (simp [*])
     ((go_at_call 100; refine KE.out.mono ?_; rintro e w1 ⟨rfl, hb1⟩; replace hb1 := undrew hb1))
    go_wp2
    go_roundw
    case rel => exact ⟨k + 1, by omega, by go_num, fun j hj => by
     by_cases h : j = k
     ·subst h; exact e1
     ·exact HN.out j (by omega), R2.out.trans (hb1.mono R2.out.size)⟩
    case measure => simp [intOf]; omega
  ·have ci : ¬ (k : Int) < (l.length : Int) := by omega
   have e : k = l.length := by omega
   subst e
   have E : Hid (sameTs l m = true) := Hid.mk' (by unfold sameTs; rw [decide_eq_true Q.out, allK_true HN.out]; rfl)
   go_wp2
   go_ret
   exact ⟨by rw [E.out]; rfl, R2.out⟩
theorem bytesEqual_any (a b : Option Addr) (c d : Nat) (l m : List Int) (w : World) (h1 : BAt w a l) (h2 : BAt w b m) :
  Calls Tryz.prog 46 #[.slice a l.length c, .slice b m.length d] w fun e w' => e = .returned (.bool ((strI l).toList == (strI m).toList)) ∧ w' = w := by
 have k1 := conv_bytesT c h1
 have k2 := conv_bytesT d h2
 clear h1 h2
 go_enter Tryz.func46, Tryz.ntmps46
 go_wp2
 go_ret
 exact ⟨rfl, rfl⟩
theorem sameAttr_any (x y : AT) (a b : Option Addr) (c d : Nat) (w : World) (ha : BAt w a x.vl) (hb : BAt w b y.vl) :
  Calls Tryz.prog 98 #[.agg #[.string x.nm, .slice a x.vl.length c], .agg #[.string y.nm, .slice b y.vl.length d]] w fun e w' => e = .returned (.bool (aeq x y)) ∧ Below w.heap.size w w' := by
 have B0 := ((Below.refl w.heap.size w).alloc (Nat.le_refl _) (.cells #[.string x.nm, .slice a x.vl.length c] 139)).alloc (by simp) (.cells #[.string y.nm, .slice b y.vl.length d] 139)
 have KB := Hid.mk' (bytesEqual_any a b c d x.vl y.vl _ (ha.below B0) (hb.below B0))
 have HB := Hid.mk' B0
 clear ha hb B0
 cases e1 : (x.nm.toList == y.nm.toList) with
 | false =>
  have E : Hid (aeq x y = false) := Hid.mk' (by unfold aeq; rw [e1]; rfl)
  go_enter Tryz.func98, Tryz.ntmps98
  go_wp2_with fail
  go_ret
  exact ⟨by rw [E.out]; rfl, HB.out⟩
 | true =>
  have E : Hid (aeq x y = ((strI x.vl).toList == (strI y.vl).toList)) := Hid.mk' (by unfold aeq; rw [e1]; rfl)
  go_enter Tryz.func98, Tryz.ntmps98
  go_wp2_with fail
  refine KB.out.mono ?_
  rintro e w1 ⟨rfl, rfl⟩
  go_wp2
  go_ret
  exact ⟨by rw [E.out]; rfl, HB.out⟩
theorem equalAttrs_any (a b : Option Addr) (c d : Nat) (l m : List AT) (w : World) (ha : AAt w a l) (hb : AAt w b m) (hl : (l.length : Int) ≤ 1048576) (hm : (m.length : Int) ≤ 1048576) :
  Calls Tryz.prog 97 #[.slice a l.length c, .slice b m.length d, .func (.func 98) #[] #[]] w fun e w' => e = .returned (.bool (sameAs l m)) ∧ Below w.heap.size w w' := by
 have HA := Hid.mk' ha
 have HB := Hid.mk' hb
 clear ha hb
 by_cases hq : l.length = m.length
 rotate_left
 ·have E : Hid (sameAs l m = false) := Hid.mk' (by unfold sameAs; rw [decide_eq_false hq]; rfl)
  have hq' : ¬ (l.length : Int) = m.length := by omega
  go_enter Tryz.func97, Tryz.ntmps97
  go_wp2
  go_ret
  exact ⟨by rw [E.out]; rfl, Below.refl _ _⟩
 have Q := Hid.mk' hq
 have hq' : (l.length : Int) = m.length := by omega
 clear hq
 go_enter Tryz.func97, Tryz.ntmps97
 go_wp2
 go_loopw [17] (fun i wr => ∃ k : Nat, k ≤ l.length ∧ i = .int .i64 k ∧ (∀ j, j < k → aeq (atK l j) (atK m j) = true) ∧ Below w.heap.size w wr) (fun i _ => l.length - (intOf i).toNat)
 case atStart => exact ⟨0, Nat.zero_le _, rfl, fun j h => absurd h (Nat.not_lt_zero _), Below.refl _ _⟩
 case round =>
  obtain ⟨k, hk, rfl, hn, hbl⟩ := hrel
  have HN := Hid.mk' hn
  have R2 := Hid.mk' hbl
  by_cases hlt : k < l.length
  ·have ci : (k : Int) < (l.length : Int) := by omega
   have ci2 : (k : Int) < (m.length : Int) := by omega
   rcases HA.out.below hbl with ha | ⟨b1, o1, rfl, s1, hc1⟩
   ·exact absurd hlt (by rw [ha]; exact Nat.not_lt_zero _)
   rcases HB.out.below hbl with hb | ⟨b2, o2, rfl, s2, hc2⟩
   ·exact absurd hlt (by rw [Q.out, hb]; exact Nat.not_lt_zero _)
   obtain ⟨x1, p1, d1, x2, x3⟩ := hc1 k hlt
   obtain ⟨y1, p2_, d2, y2, y3⟩ := hc2 k (by omega)
   have B0 := ((Below.refl wr.heap.size wr).alloc (Nat.le_refl _) (.cells #[.string (atK l k).nm, .slice p1 (atK l k).vl.length d1] 139)).alloc (by simp) (.cells #[.string (atK m k).nm, .slice p2_ (atK m k).vl.length d2] 139)
   have KE := Hid.mk' (sameAttr_any (atK l k) (atK m k) p1 p2_ d1 d2 _ (x3.below B0) (y3.below B0))
   have R3 := Hid.mk' (R2.out.trans (B0.mono R2.out.size))
   clear hbl hc1 hc2 hn x3 y3 B0
   cases e1 : aeq (atK l k) (atK m k) with
   | false =>
    rw [e1] at KE
    have E : Hid (sameAs l m = false) := Hid.mk' (by unfold sameAs; rw [decide_eq_true Q.out, allK_false hlt e1]; rfl)
    go_wp2_with fail
    refine KE.out.mono ?_
    rintro e w1 ⟨rfl, hb1⟩
    have R4 := Hid.mk' (R3.out.trans (hb1.mono R3.out.size))
    clear hb1 KE
    go_wp2
    go_ret
    exact ⟨by rw [E.out]; rfl, R4.out⟩
   | true =>
    rw [e1] at KE
    go_wp2_with fail
    refine KE.out.mono ?_
    rintro e w1 ⟨rfl, hb1⟩
    have R4 := Hid.mk' (R3.out.trans (hb1.mono R3.out.size))
    clear hb1 KE
    go_wp2
    go_roundw
    case rel => exact ⟨k + 1, by omega, by go_num, fun j hj => by
     by_cases h : j = k
     ·subst h; exact e1
     ·exact HN.out j (by omega), R4.out⟩
    case measure => simp [intOf]; omega
  ·have ci : ¬ (k : Int) < (l.length : Int) := by omega
   have e : k = l.length := by omega
   subst e
   have E : Hid (sameAs l m = true) := Hid.mk' (by unfold sameAs; rw [decide_eq_true Q.out, allK_true HN.out]; rfl)
   go_wp2
   go_ret
   exact ⟨by rw [E.out]; rfl, R2.out⟩
theorem sameToken_any (x y : TK) (a b : Option Addr) (c d : Nat) (w : World) (ha : AAt w a x.at_) (hb : AAt w b y.at_) (hx : (x.at_.length : Int) ≤ 1048576) (hy : (y.at_.length : Int) ≤ 1048576) :
  Calls Tryz.prog 70 #[.agg #[.int .i64 x.kd, .int .i64 x.by_, .string x.nm, .slice a x.at_.length c, .bool x.sh], .agg #[.int .i64 y.kd, .int .i64 y.by_, .string y.nm, .slice b y.at_.length d, .bool y.sh]] w fun e w' => e = .returned (.bool (teq x y)) ∧ Below w.heap.size w w' := by
 have B0 := ((Below.refl w.heap.size w).alloc (Nat.le_refl _) (.cells #[.int .i64 x.kd, .int .i64 x.by_, .string x.nm, .slice a x.at_.length c, .bool x.sh] 107)).alloc (by simp) (.cells #[.int .i64 y.kd, .int .i64 y.by_, .string y.nm, .slice b y.at_.length d, .bool y.sh] 107)
 have KA := Hid.mk' (equalAttrs_any a b c d x.at_ y.at_ _ (ha.below B0) (hb.below B0) hx hy)
 have HB := Hid.mk' B0
 clear ha hb B0
 cases e1 : (x.kd == y.kd) with
 | false =>
  have E : Hid (teq x y = false) := Hid.mk' (by unfold teq; rw [e1]; rfl)
  go_enter Tryz.func70, Tryz.ntmps70
  go_wp2_with go_big_skip
  go_ret
  exact ⟨by rw [E.out]; rfl, HB.out⟩
 | true =>
 cases e2 : (x.by_ == y.by_) with
 | false =>
  have E : Hid (teq x y = false) := Hid.mk' (by unfold teq; rw [e2]; simp)
  go_enter Tryz.func70, Tryz.ntmps70
  go_wp2_with go_big_skip
  go_ret
  exact ⟨by rw [E.out]; rfl, HB.out⟩
 | true =>
 cases e3 : (x.nm.toList == y.nm.toList) with
 | false =>
  have E : Hid (teq x y = false) := Hid.mk' (by unfold teq; rw [e3]; simp)
  go_enter Tryz.func70, Tryz.ntmps70
  go_wp2_with go_big_skip
  go_ret
  exact ⟨by rw [E.out]; rfl, HB.out⟩
 | true =>
 cases e4 : (x.sh == y.sh) with
 | false =>
  have E : Hid (teq x y = false) := Hid.mk' (by unfold teq; rw [e4]; simp)
  go_enter Tryz.func70, Tryz.ntmps70
  go_wp2_with go_big_skip
  go_ret
  exact ⟨by rw [E.out]; rfl, HB.out⟩
 | true =>
  have E : Hid (teq x y = sameAs x.at_ y.at_) := Hid.mk' (by unfold teq; rw [e1, e2, e3, e4]; simp)
  go_enter Tryz.func70, Tryz.ntmps70
  go_wp2_with (first | go_big_skip | (go_at_call 97; refine KA.out.mono ?_; rintro e w1 ⟨rfl, hb⟩; have HB := Hid.mk' (HB.out.trans (hb.mono HB.out.size)); clear hb))
  go_ret
  exact ⟨by rw [E.out]; rfl, HB.out⟩
theorem equalTokens_any (a b : Option Addr) (c d : Nat) (l m : List TK) (w : World) (ha : TsAt w a l) (hb : TsAt w b m) (hl : (l.length : Int) + tssz l ≤ 1048576) (hm : (m.length : Int) + tssz m ≤ 1048576) :
  Calls Tryz.prog 69 #[.slice a l.length c, .slice b m.length d, .func (.func 70) #[] #[]] w fun e w' => e = .returned (.bool (sameTs l m)) ∧ Below w.heap.size w w' := by
 have HA := Hid.mk' ha
 have HB := Hid.mk' hb
 clear ha hb
 by_cases hq : l.length = m.length
 rotate_left
 ·have E : Hid (sameTs l m = false) := Hid.mk' (by unfold sameTs; rw [decide_eq_false hq]; rfl)
  have hq' : ¬ (l.length : Int) = m.length := by omega
  go_enter Tryz.func69, Tryz.ntmps69
  go_wp2
  go_ret
  exact ⟨by rw [E.out]; rfl, Below.refl _ _⟩
 have Q := Hid.mk' hq
 have hq' : (l.length : Int) = m.length := by omega
 clear hq
 go_enter Tryz.func69, Tryz.ntmps69
 go_wp2
 go_loopw [17] (fun i wr => ∃ k : Nat, k ≤ l.length ∧ i = .int .i64 k ∧ (∀ j, j < k → teq (tkK l j) (tkK m j) = true) ∧ Below w.heap.size w wr) (fun i _ => l.length - (intOf i).toNat)
 case atStart => exact ⟨0, Nat.zero_le _, rfl, fun j h => absurd h (Nat.not_lt_zero _), Below.refl _ _⟩
 case round =>
  obtain ⟨k, hk, rfl, hn, hbl⟩ := hrel
  have HN := Hid.mk' hn
  have R2 := Hid.mk' hbl
  by_cases hlt : k < l.length
  ·have ci : (k : Int) < (l.length : Int) := by omega
   have ci2 : (k : Int) < (m.length : Int) := by omega
   rcases HA.out.below hbl with ha | ⟨b1, o1, rfl, s1, hc1⟩
   ·exact absurd hlt (by rw [ha]; exact Nat.not_lt_zero _)
   rcases HB.out.below hbl with hb | ⟨b2, o2, rfl, s2, hc2⟩
   ·exact absurd hlt (by rw [Q.out, hb]; exact Nat.not_lt_zero _)
   obtain ⟨x0, x1, x2, ⟨p1, d1, x4, x3⟩, x5⟩ := hc1 k hlt
   obtain ⟨y0, y1, y2, ⟨p2_, d2, y4, y3⟩, y5⟩ := hc2 k (by omega)
   have st := tssz_take l k hlt
   have sl := tssz_le l (k + 1)
   have st2 := tssz_take m k (by omega)
   have sl2 := tssz_le m (k + 1)
   unfold tsz at st st2
   have B0 := ((Below.refl wr.heap.size wr).alloc (Nat.le_refl _) (.cells #[.int .i64 (tkK l k).kd, .int .i64 (tkK l k).by_, .string (tkK l k).nm, .slice p1 (tkK l k).at_.length d1, .bool (tkK l k).sh] 107)).alloc (by simp) (.cells #[.int .i64 (tkK m k).kd, .int .i64 (tkK m k).by_, .string (tkK m k).nm, .slice p2_ (tkK m k).at_.length d2, .bool (tkK m k).sh] 107)
   have KE := Hid.mk' (sameToken_any (tkK l k) (tkK m k) p1 p2_ d1 d2 _ (x3.below B0) (y3.below B0) (by omega) (by omega))
   have R3 := Hid.mk' (R2.out.trans (B0.mono R2.out.size))
   clear hbl hc1 hc2 hn x3 y3 B0 st sl st2 sl2
   cases e1 : teq (tkK l k) (tkK m k) with
   | false =>
    rw [e1] at KE
    have E : Hid (sameTs l m = false) := Hid.mk' (by unfold sameTs; rw [decide_eq_true Q.out, allK_false hlt e1]; rfl)
    go_wp2_with fail
    refine KE.out.mono ?_
    rintro e w1 ⟨rfl, hb1⟩
    have R4 := Hid.mk' (R3.out.trans (hb1.mono R3.out.size))
    clear hb1 KE
    go_wp2
    go_ret
    exact ⟨by rw [E.out]; rfl, R4.out⟩
   | true =>
    rw [e1] at KE
    go_wp2_with fail
    refine KE.out.mono ?_
    rintro e w1 ⟨rfl, hb1⟩
    have R4 := Hid.mk' (R3.out.trans (hb1.mono R3.out.size))
    clear hb1 KE
    go_wp2
    go_roundw
    case rel => exact ⟨k + 1, by omega, by go_num, fun j hj => by
     by_cases h : j = k
     ·subst h; exact e1
     ·exact HN.out j (by omega), R4.out⟩
    case measure => simp [intOf]; omega
  ·have ci : ¬ (k : Int) < (l.length : Int) := by omega
   have e : k = l.length := by omega
   subst e
   have E : Hid (sameTs l m = true) := Hid.mk' (by unfold sameTs; rw [decide_eq_true Q.out, allK_true HN.out]; rfl)
   go_wp2
   go_ret
   exact ⟨by rw [E.out]; rfl, R2.out⟩
theorem implSameT_any (a b : Option Addr) (c d : Nat) (l m : List TK) (w : World) (ha : TsAt w a l) (hb : TsAt w b m) (hl : (l.length : Int) + tssz l ≤ 1048576) (hm : (m.length : Int) + tssz m ≤ 1048576) :
  Calls Tryz.prog 29 #[.slice a l.length c, .slice b m.length d] w fun e w' => e = .returned (.bool (sameTs l m)) ∧ Below w.heap.size w w' := by
 have K := Hid.mk' (equalTokens_any a b c d l m w ha hb hl hm)
 clear ha hb
 go_enter Tryz.func29, Tryz.ntmps29
 go_wp2_with fail
 refine K.out.mono ?_
 rintro e w1 ⟨rfl, hb⟩
 have HB := Hid.mk' hb
 clear hb K
 go_wp2
 go_ret
 exact ⟨rfl, HB.out⟩
def beqB (l m : List Int) : Bool := (strI l).toList == (strI m).toList
def ceq (x y : CK) : Bool := (x.pl == y.pl) && ((x.ct == y.ct) && beqB x.hd y.hd)
def sameCs (l m : List CK) : Bool := decide (l.length = m.length) && allK l.length (fun k => ceq (ckK l k) (ckK m k))
def sameR (m n : ME) : Bool := sameTs m.tk n.tk && (beqB m.hd n.hd && sameCs m.cs n.cs)
def sameM (m n : ME) : Bool := beqB m.dt n.dt && ((m.st == n.st) && sameR m n)
theorem two5 (w : World) (T : TypeId) (x0 x1 x2 x3 x4 y0 y1 y2 y3 y4 : Value) :
  Below w.heap.size w ((w.alloc (.cells #[x0, x1, x2, x3, x4] T)).alloc (.cells #[y0, y1, y2, y3, y4] T)) ∧ ((w.alloc (.cells #[x0, x1, x2, x3, x4] T)).alloc (.cells #[y0, y1, y2, y3, y4] T)).rowIs w.heap.size T 5 (r5 x0 x1 x2 x3 x4) ∧ ((w.alloc (.cells #[x0, x1, x2, x3, x4] T)).alloc (.cells #[y0, y1, y2, y3, y4] T)).rowIs (w.heap.size + 1) T 5 (r5 y0 y1 y2 y3 y4) := by
 refine ⟨((Below.refl w.heap.size w).alloc (Nat.le_refl _) _).alloc (by simp) _, (row5 w T x0 x1 x2 x3 x4).alloc _, ?_⟩
 have := row5 (w.alloc (.cells #[x0, x1, x2, x3, x4] T)) T y0 y1 y2 y3 y4
 rw [show (w.alloc (.cells #[x0, x1, x2, x3, x4] T)).heap.size = w.heap.size + 1 from by simp] at this
 exact this
structure M2 (w : World) (m n : ME) (a t u c a2 t2 u2 c2 : Option Addr) (ca ct cu cc da dt du dc : Nat) (wi : World) : Prop where
 bl : Below w.heap.size w wi
 r1 : wi.rowIs w.heap.size 27 5 (r5 (.slice a m.dt.length ca) (.int .i64 m.st) (.slice t m.tk.length ct) (.slice u m.hd.length cu) (.slice c m.cs.length cc))
 r2 : wi.rowIs (w.heap.size + 1) 27 5 (r5 (.slice a2 n.dt.length da) (.int .i64 n.st) (.slice t2 n.tk.length dt) (.slice u2 n.hd.length du) (.slice c2 n.cs.length dc))
 m1 : MAt wi a t u c m
 m2 : MAt wi a2 t2 u2 c2 n
theorem M2.below {w : World} {m n : ME} {a t u c a2 t2 u2 c2 : Option Addr} {ca ct cu cc da dt du dc : Nat} {wi wj : World} (x : M2 w m n a t u c a2 t2 u2 c2 ca ct cu cc da dt du dc wi) (hb : Below wi.heap.size wi wj) : M2 w m n a t u c a2 t2 u2 c2 ca ct cu cc da dt du dc wj :=
 ⟨x.bl.trans (hb.mono x.bl.size), rowB x.r1 hb, rowB x.r2 hb, x.m1.below hb, x.m2.below hb⟩
theorem M2.start {w : World} {m n : ME} {a t u c a2 t2 u2 c2 : Option Addr} {ca ct cu cc da dt du dc : Nat} (h1 : MAt w a t u c m) (h2 : MAt w a2 t2 u2 c2 n) : M2 w m n a t u c a2 t2 u2 c2 ca ct cu cc da dt du dc ((w.alloc (.cells #[.slice a m.dt.length ca, .int .i64 m.st, .slice t m.tk.length ct, .slice u m.hd.length cu, .slice c m.cs.length cc] 27)).alloc (.cells #[.slice a2 n.dt.length da, .int .i64 n.st, .slice t2 n.tk.length dt, .slice u2 n.hd.length du, .slice c2 n.cs.length dc] 27)) := by
 obtain ⟨B0, R1, R2⟩ := two5 w 27 (.slice a m.dt.length ca) (.int .i64 m.st) (.slice t m.tk.length ct) (.slice u m.hd.length cu) (.slice c m.cs.length cc) (.slice a2 n.dt.length da) (.int .i64 n.st) (.slice t2 n.tk.length dt) (.slice u2 n.hd.length du) (.slice c2 n.cs.length dc)
 exact ⟨B0, R1, R2, h1.below B0, h2.below B0⟩
theorem sameCheck_any (x y : CK) (a b : Option Addr) (c d : Nat) (w : World) (ha : BAt w a x.hd) (hb : BAt w b y.hd) :
  Calls Tryz.prog 79 #[.agg #[.int .i64 x.pl, .int .i64 x.ct, .slice a x.hd.length c], .agg #[.int .i64 y.pl, .int .i64 y.ct, .slice b y.hd.length d]] w fun e w' => e = .returned (.bool (ceq x y)) ∧ Below w.heap.size w w' := by
 have B0 := ((Below.refl w.heap.size w).alloc (Nat.le_refl _) (.cells #[.int .i64 x.pl, .int .i64 x.ct, .slice a x.hd.length c] 31)).alloc (by simp) (.cells #[.int .i64 y.pl, .int .i64 y.ct, .slice b y.hd.length d] 31)
 have KB := Hid.mk' (bytesEqual_any a b c d x.hd y.hd _ (ha.below B0) (hb.below B0))
 have HB := Hid.mk' B0
 clear ha hb B0
 cases e1 : (x.pl == y.pl) with
 | false =>
  have E : Hid (ceq x y = false) := Hid.mk' (by unfold ceq; rw [e1]; rfl)
  go_enter Tryz.func79, Tryz.ntmps79
  go_wp2_with go_big_skip
  go_ret
  exact ⟨by rw [E.out]; rfl, HB.out⟩
 | true =>
 cases e2 : (x.ct == y.ct) with
 | false =>
  have E : Hid (ceq x y = false) := Hid.mk' (by unfold ceq; rw [e2]; simp)
  go_enter Tryz.func79, Tryz.ntmps79
  go_wp2_with go_big_skip
  go_ret
  exact ⟨by rw [E.out]; rfl, HB.out⟩
 | true =>
  have E : Hid (ceq x y = ((strI x.hd).toList == (strI y.hd).toList)) := Hid.mk' (by unfold ceq beqB; rw [e1, e2]; simp)
  go_enter Tryz.func79, Tryz.ntmps79
  go_wp2_with (first | go_big_skip | (go_at_call 46; refine KB.out.mono ?_; rintro e w9 ⟨rfl, hw9⟩; obtain rfl := hw9.symm))
  go_ret
  exact ⟨by rw [E.out]; rfl, HB.out⟩
theorem equalChecks_any (a b : Option Addr) (c d : Nat) (l m : List CK) (w : World) (ha : CsAt w a l) (hb : CsAt w b m) (hl : (l.length : Int) ≤ 1048576) (hm : (m.length : Int) ≤ 1048576) :
  Calls Tryz.prog 78 #[.slice a l.length c, .slice b m.length d, .func (.func 79) #[] #[]] w fun e w' => e = .returned (.bool (sameCs l m)) ∧ Below w.heap.size w w' := by
 have HA := Hid.mk' ha
 have HB := Hid.mk' hb
 clear ha hb
 by_cases hq : l.length = m.length
 rotate_left
 ·have E : Hid (sameCs l m = false) := Hid.mk' (by unfold sameCs; rw [decide_eq_false hq]; rfl)
  have hq' : ¬ (l.length : Int) = m.length := by omega
  go_enter Tryz.func78, Tryz.ntmps78
  go_wp2
  go_ret
  exact ⟨by rw [E.out]; rfl, Below.refl _ _⟩
 have Q := Hid.mk' hq
 have hq' : (l.length : Int) = m.length := by omega
 clear hq
 go_enter Tryz.func78, Tryz.ntmps78
 go_wp2
 go_loopw [17] (fun i wr => ∃ k : Nat, k ≤ l.length ∧ i = .int .i64 k ∧ (∀ j, j < k → ceq (ckK l j) (ckK m j) = true) ∧ Below w.heap.size w wr) (fun i _ => l.length - (intOf i).toNat)
 case atStart => exact ⟨0, Nat.zero_le _, rfl, fun j h => absurd h (Nat.not_lt_zero _), Below.refl _ _⟩
 case round =>
  obtain ⟨k, hk, rfl, hn, hbl⟩ := hrel
  have HN := Hid.mk' hn
  have R2 := Hid.mk' hbl
  by_cases hlt : k < l.length
  ·have ci : (k : Int) < (l.length : Int) := by omega
   have ci2 : (k : Int) < (m.length : Int) := by omega
   rcases HA.out.below hbl with ha | ⟨b1, o1, rfl, s1, hc1⟩
   ·exact absurd hlt (by rw [ha]; exact Nat.not_lt_zero _)
   rcases HB.out.below hbl with hb | ⟨b2, o2, rfl, s2, hc2⟩
   ·exact absurd hlt (by rw [Q.out, hb]; exact Nat.not_lt_zero _)
   obtain ⟨x0, x1, p1, d1, x4, x3⟩ := hc1 k hlt
   obtain ⟨y0, y1, p2_, d2, y4, y3⟩ := hc2 k (by omega)
   have B0 := ((Below.refl wr.heap.size wr).alloc (Nat.le_refl _) (.cells #[.int .i64 (ckK l k).pl, .int .i64 (ckK l k).ct, .slice p1 (ckK l k).hd.length d1] 31)).alloc (by simp) (.cells #[.int .i64 (ckK m k).pl, .int .i64 (ckK m k).ct, .slice p2_ (ckK m k).hd.length d2] 31)
   have KE := Hid.mk' (sameCheck_any (ckK l k) (ckK m k) p1 p2_ d1 d2 _ (x3.below B0) (y3.below B0))
   have R3 := Hid.mk' (R2.out.trans (B0.mono R2.out.size))
   clear hbl hc1 hc2 hn x3 y3 B0
   cases e1 : ceq (ckK l k) (ckK m k) with
   | false =>
    rw [e1] at KE
    have E : Hid (sameCs l m = false) := Hid.mk' (by unfold sameCs; rw [decide_eq_true Q.out, allK_false hlt e1]; rfl)
    go_wp2_with fail
    refine KE.out.mono ?_
    rintro e w1 ⟨rfl, hb1⟩
    have R4 := Hid.mk' (R3.out.trans (hb1.mono R3.out.size))
    clear hb1 KE
    go_wp2
    go_ret
    exact ⟨by rw [E.out]; rfl, R4.out⟩
   | true =>
    rw [e1] at KE
    go_wp2_with fail
    refine KE.out.mono ?_
    rintro e w1 ⟨rfl, hb1⟩
    have R4 := Hid.mk' (R3.out.trans (hb1.mono R3.out.size))
    clear hb1 KE
    go_wp2
    go_roundw
    case rel => exact ⟨k + 1, by omega, by go_num, fun j hj => by
     by_cases h : j = k
     ·subst h; exact e1
     ·exact HN.out j (by omega), R4.out⟩
    case measure => simp [intOf]; omega
  ·have ci : ¬ (k : Int) < (l.length : Int) := by omega
   have e : k = l.length := by omega
   subst e
   have E : Hid (sameCs l m = true) := Hid.mk' (by unfold sameCs; rw [decide_eq_true Q.out, allK_true HN.out]; rfl)
   go_wp2
   go_ret
   exact ⟨by rw [E.out]; rfl, R2.out⟩
theorem sameReading_any (m n : ME) (a t u c a2 t2 u2 c2 : Option Addr) (ca ct cu cc da dt du dc : Nat) (w : World) (h1 : MAt w a t u c m) (h2 : MAt w a2 t2 u2 c2 n) (hl : (msz m : Int) ≤ 1048576) (hm : (msz n : Int) ≤ 1048576) :
  Calls Tryz.prog 47 #[.agg #[.slice a m.dt.length ca, .int .i64 m.st, .slice t m.tk.length ct, .slice u m.hd.length cu, .slice c m.cs.length cc], .agg #[.slice a2 n.dt.length da, .int .i64 n.st, .slice t2 n.tk.length dt, .slice u2 n.hd.length du, .slice c2 n.cs.length dc]] w fun e w' => e = .returned (.bool (sameR m n)) ∧ Below w.heap.size w w' := by
 have MS : (msz m : Int) = m.dt.length + m.tk.length + tssz m.tk + m.hd.length + m.cs.length + csz m.cs := by unfold msz; omega
 have NS : (msz n : Int) = n.dt.length + n.tk.length + tssz n.tk + n.hd.length + n.cs.length + csz n.cs := by unfold msz; omega
 have s1 : (m.tk.length : Int) + tssz m.tk ≤ 1048576 := by omega
 have s2 : (n.tk.length : Int) + tssz n.tk ≤ 1048576 := by omega
 have s3 : (m.cs.length : Int) ≤ 1048576 := by omega
 have s4 : (n.cs.length : Int) ≤ 1048576 := by omega
 have HS := Hid.mk' (M2.start (ca := ca) (ct := ct) (cu := cu) (cc := cc) (da := da) (dt := dt) (du := du) (dc := dc) h1 h2)
 clear MS NS hl hm
 generalize hW : (w.alloc (.cells #[.slice a m.dt.length ca, .int .i64 m.st, .slice t m.tk.length ct, .slice u m.hd.length cu, .slice c m.cs.length cc] 27)).alloc (.cells #[.slice a2 n.dt.length da, .int .i64 n.st, .slice t2 n.tk.length dt, .slice u2 n.hd.length du, .slice c2 n.cs.length dc] 27) = W at *
 have E : Hid (sameR m n = (sameTs m.tk n.tk && (beqB m.hd n.hd && sameCs m.cs n.cs))) := Hid.mk' rfl
 have KT := Hid.mk' (implSameT_any t t2 ct dt m.tk n.tk W HS.out.m1.2.1 HS.out.m2.2.1 s1 s2)
 clear h1 h2
 obtain ⟨x0, x1, x2, x3, x4, x5⟩ := cells5 HS.out.r1
 obtain ⟨y0, y1, y2, y3, y4, y5⟩ := cells5 HS.out.r2
 generalize hS : sameTs m.tk n.tk = S at *
 cases S with
 | false =>
  go_enter Tryz.func47, Tryz.ntmps47
  go_wp2_with fail
  clear hW
  refine KT.out.mono ?_
  rintro e w1 ⟨rfl, hb⟩
  have HB := Hid.mk' (HS.out.below hb).bl
  clear hb KT
  go_wp2_with (first | go_big_skip)
  go_ret
  exact ⟨by rw [E.out]; rfl, HB.out⟩
 | true =>
 go_enter Tryz.func47, Tryz.ntmps47
 go_wp2_with fail
 clear hW x0 x1 x2 x3 x4 x5 y0 y1 y2 y3 y4 y5
 refine KT.out.mono ?_
 rintro e w1 ⟨rfl, hb⟩
 have HS := Hid.mk' (HS.out.below hb)
 clear hb KT
 have KB := Hid.mk' (bytesEqual_any u u2 cu du m.hd n.hd w1 HS.out.m1.2.2.1 HS.out.m2.2.2.1)
 have KC := Hid.mk' (equalChecks_any c c2 cc dc m.cs n.cs w1 HS.out.m1.2.2.2 HS.out.m2.2.2.2 s3 s4)
 have E2 : Hid (beqB m.hd n.hd = ((strI m.hd).toList == (strI n.hd).toList)) := Hid.mk' rfl
 obtain ⟨x0, x1, x2, x3, x4, x5⟩ := cells5 HS.out.r1
 obtain ⟨y0, y1, y2, y3, y4, y5⟩ := cells5 HS.out.r2
 cases hB : ((strI m.hd).toList == (strI n.hd).toList) with
 | false =>
  rw [hB] at KB
  go_wp2_with (first | go_big_skip | (go_at_call 46; refine KB.out.mono ?_; rintro e w9 ⟨rfl, hw9⟩; obtain rfl := hw9.symm))
  go_ret
  exact ⟨by rw [E.out, E2.out, hB]; rfl, HS.out.bl⟩
 | true =>
  rw [hB] at KB
  go_wp2_with (first | go_big_skip | (go_at_call 46; refine KB.out.mono ?_; rintro e w9 ⟨rfl, hw9⟩; obtain rfl := hw9.symm) | fail)
  refine KC.out.mono ?_
  rintro e w2 ⟨rfl, hb⟩
  have HB := Hid.mk' (HS.out.below hb).bl
  clear hb KC
  go_wp2_with (first | go_big_skip)
  go_ret
  exact ⟨by rw [E.out, E2.out, hB]; first | rfl | simp, HB.out⟩
theorem implSM_any (m n : ME) (a t u c a2 t2 u2 c2 : Option Addr) (ca ct cu cc da dt du dc : Nat) (w : World) (h1 : MAt w a t u c m) (h2 : MAt w a2 t2 u2 c2 n) (hl : (msz m : Int) ≤ 1048576) (hm : (msz n : Int) ≤ 1048576) :
  Calls Tryz.prog 12 #[.agg #[.slice a m.dt.length ca, .int .i64 m.st, .slice t m.tk.length ct, .slice u m.hd.length cu, .slice c m.cs.length cc], .agg #[.slice a2 n.dt.length da, .int .i64 n.st, .slice t2 n.tk.length dt, .slice u2 n.hd.length du, .slice c2 n.cs.length dc]] w fun e w' => e = .returned (.bool (sameM m n)) ∧ Below w.heap.size w w' := by
 have KR : Hid (∀ v, MAt v a t u c m → MAt v a2 t2 u2 c2 n → Calls Tryz.prog 47 #[.agg #[.slice a m.dt.length ca, .int .i64 m.st, .slice t m.tk.length ct, .slice u m.hd.length cu, .slice c m.cs.length cc], .agg #[.slice a2 n.dt.length da, .int .i64 n.st, .slice t2 n.tk.length dt, .slice u2 n.hd.length du, .slice c2 n.cs.length dc]] v fun e w' => e = .returned (.bool (sameR m n)) ∧ Below v.heap.size v w') := Hid.mk' (fun v x y => sameReading_any m n a t u c a2 t2 u2 c2 ca ct cu cc da dt du dc v x y hl hm)
 have MS : (msz m : Int) = m.dt.length + m.tk.length + tssz m.tk + m.hd.length + m.cs.length + csz m.cs := by unfold msz; omega
 have NS : (msz n : Int) = n.dt.length + n.tk.length + tssz n.tk + n.hd.length + n.cs.length + csz n.cs := by unfold msz; omega
 have s1 : (m.tk.length : Int) + tssz m.tk ≤ 1048576 := by omega
 have s2 : (n.tk.length : Int) + tssz n.tk ≤ 1048576 := by omega
 have s3 : (m.cs.length : Int) ≤ 1048576 := by omega
 have s4 : (n.cs.length : Int) ≤ 1048576 := by omega
 have HS := Hid.mk' (M2.start (ca := ca) (ct := ct) (cu := cu) (cc := cc) (da := da) (dt := dt) (du := du) (dc := dc) h1 h2)
 clear MS NS hl hm
 generalize hW : (w.alloc (.cells #[.slice a m.dt.length ca, .int .i64 m.st, .slice t m.tk.length ct, .slice u m.hd.length cu, .slice c m.cs.length cc] 27)).alloc (.cells #[.slice a2 n.dt.length da, .int .i64 n.st, .slice t2 n.tk.length dt, .slice u2 n.hd.length du, .slice c2 n.cs.length dc] 27) = W at *
 have E : Hid (sameM m n = (((strI m.dt).toList == (strI n.dt).toList) && ((m.st == n.st) && sameR m n))) := Hid.mk' rfl
 have KB := Hid.mk' (bytesEqual_any a a2 ca da m.dt n.dt W HS.out.m1.1 HS.out.m2.1)
 have KR := Hid.mk' (KR.out W HS.out.m1 HS.out.m2)
 clear h1 h2
 obtain ⟨x0, x1, x2, x3, x4, x5⟩ := cells5 HS.out.r1
 obtain ⟨y0, y1, y2, y3, y4, y5⟩ := cells5 HS.out.r2
 cases hB : ((strI m.dt).toList == (strI n.dt).toList) with
 | false =>
  rw [hB] at KB
  go_enter Tryz.func12, Tryz.ntmps12
  go_wp2_with (first | go_big_skip | (go_at_call 46; refine KB.out.mono ?_; rintro e w9 ⟨rfl, hw9⟩; obtain rfl := hw9.symm))
  clear hW
  go_ret
  exact ⟨by rw [E.out, hB]; rfl, HS.out.bl⟩
 | true =>
 rw [hB] at KB
 cases hq : (m.st == n.st) with
 | false =>
  go_enter Tryz.func12, Tryz.ntmps12
  go_wp2_with (first | go_big_skip | (go_at_call 46; refine KB.out.mono ?_; rintro e w9 ⟨rfl, hw9⟩; obtain rfl := hw9.symm))
  clear hW
  go_ret
  exact ⟨by rw [E.out, hB, hq]; rfl, HS.out.bl⟩
 | true =>
  generalize hR : sameR m n = R at *
  go_enter Tryz.func12, Tryz.ntmps12
  go_wp2_with (first | go_big_skip | (go_at_call 46; refine KB.out.mono ?_; rintro e w9 ⟨rfl, hw9⟩; obtain rfl := hw9.symm) | fail)
  clear hW
  refine KR.out.mono ?_
  rintro e w2 ⟨rfl, hb⟩
  have HB := Hid.mk' (HS.out.below hb).bl
  clear hb KR
  go_wp2_with (first | go_big_skip)
  go_ret
  exact ⟨by rw [E.out, hB, hq]; first | rfl | simp, HB.out⟩
theorem l12SameChecks_any (a b : Option Addr) (c d : Nat) (l m : List CK) (w : World) (ha : CsAt w a l) (hb : CsAt w b m) (hl : (l.length : Int) + csz l ≤ 1048576) (hm : (m.length : Int) + csz m ≤ 1048576) :
  Calls Tryz.prog 81 #[.slice a l.length c, .slice b m.length d] w fun e w' => e = .returned (.bool (sameCs l m)) ∧ Below w.heap.size w w' := by
 have HA := Hid.mk' ha
 have HB := Hid.mk' hb
 clear ha hb
 by_cases hq : l.length = m.length
 rotate_left
 ·have E : Hid (sameCs l m = false) := Hid.mk' (by unfold sameCs; rw [decide_eq_false hq]; rfl)
  have hq' : ¬ (l.length : Int) = m.length := by omega
  go_enter Tryz.func81, Tryz.ntmps81
  go_wp2
  go_ret
  exact ⟨by rw [E.out]; rfl, Below.refl _ _⟩
 have Q := Hid.mk' hq
 have hq' : (l.length : Int) = m.length := by omega
 clear hq
 go_enter Tryz.func81, Tryz.ntmps81
 go_wp2
 go_loopw [5] (fun i wr => ∃ k : Nat, k ≤ l.length ∧ i = .int .i64 k ∧ (∀ j, j < k → ceq (ckK l j) (ckK m j) = true) ∧ Below w.heap.size w wr) (fun i _ => l.length - (intOf i).toNat)
 case atStart => exact ⟨0, Nat.zero_le _, rfl, fun j h => absurd h (Nat.not_lt_zero _), Below.refl _ _⟩
 case round =>
  obtain ⟨k, hk, rfl, hn, hbl⟩ := hrel
  have HN := Hid.mk' hn
  have R2 := Hid.mk' hbl
  by_cases hlt : k < l.length
  ·have ci : (k : Int) < (l.length : Int) := by omega
   have ci2 : (k : Int) < (m.length : Int) := by omega
   rcases HA.out.below hbl with ha | ⟨b1, o1, rfl, s1, hc1⟩
   ·exact absurd hlt (by rw [ha]; exact Nat.not_lt_zero _)
   rcases HB.out.below hbl with hb | ⟨b2, o2, rfl, s2, hc2⟩
   ·exact absurd hlt (by rw [Q.out, hb]; exact Nat.not_lt_zero _)
   obtain ⟨x1, x4, p1, d1, x2, x3⟩ := hc1 k hlt
   obtain ⟨y1, y4, p2_, d2, y2, y3⟩ := hc2 k (by omega)
   have X3 := Hid.mk' x3
   have Y3 := Hid.mk' y3
   have P0 : Hid (ceq (ckK l k) (ckK m k) = (((ckK l k).pl == (ckK m k).pl) && (((ckK l k).ct == (ckK m k).ct) && ((strI (ckK l k).hd).toList == (strI (ckK m k).hd).toList)))) := Hid.mk' rfl
   clear hbl hc1 hc2 x3 y3 hn

   cases e1 : ((ckK l k).pl != (ckK m k).pl) with
   | true =>
    have f1 : ((ckK l k).pl == (ckK m k).pl) = false := by simpa using e1
    have E : Hid (sameCs l m = false) := Hid.mk' (by unfold sameCs; rw [decide_eq_true Q.out, allK_false hlt (by rw [P0.out, f1]; rfl)]; rfl)
    clear f1
    go_wp2

    refine wp_region_held_drew (S := (fun w' => w'.cell? ⟨b1, o1 + k * 3, none⟩ = some (.int .i64 (ckK l k).pl) ∧ w'.cell? ⟨b1, o1 + k * 3 + 1, none⟩ = some (.int .i64 (ckK l k).ct) ∧ w'.cell? ⟨b1, o1 + k * 3 + 2, none⟩ = some (.slice p1 (ckK l k).hd.length d1) ∧ w'.cell? ⟨b2, o2 + k * 3, none⟩ = some (.int .i64 (ckK m k).pl) ∧ w'.cell? ⟨b2, o2 + k * 3 + 1, none⟩ = some (.int .i64 (ckK m k).ct) ∧ w'.cell? ⟨b2, o2 + k * 3 + 2, none⟩ = some (.slice p2_ (ckK m k).hd.length d2) ∧ Hid (BAt w' p1 (ckK l k).hd) ∧ Hid (BAt w' p2_ (ckK m k).hd))) (by kernel_rfl) (by refine ⟨by simp [*], by simp [*], by simp [*], by simp [*], by simp [*], by simp [*], X3.out.below (Below.refl _ _).drew, Y3.out.below (Below.refl _ _).drew⟩) (fun hHeld => ?_)
    refine tkY 0 ?_
    refine tkY 1 ?_
    refine tkY 2 ?_
    refine tkY 3 ?_
    refine tkY 4 ?_
    refine tkY 5 ?_
    refine tkY 6 ?_
    refine tkY 7 ?_
    refine tkY 8 ?_
    refine tkY 9 ?_
    refine tkY 10 ?_
    refine tkY 11 ?_
    refine tkU 12 ?_
    refine tkU 13 ?_
    refine tkU 14 ?_
    refine tkU 15 ?_
    refine tkU 16 ?_
    refine tkU 17 ?_
    refine tkU 18 ?_
    refine tkU 19 ?_
    refine tkU 20 ?_
    refine tkU 21 ?_
    refine tkU 22 ?_
    refine tkY 23 ?_
    refine tkY 24 ?_
    refine tkU 25 ?_
    refine tkU 26 ?_
    refine tkU 27 ?_
    refine tkU 28 ?_
    refine tkU 29 ?_
    refine tkU 30 ?_
    refine tkU 31 ?_
    refine tkU 32 ?_
    refine tkU 33 ?_
    refine tkU 34 ?_
    refine tkU 35 ?_
    refine tkU 36 ?_
    refine tkU 37 ?_
    refine tkY 38 ?_
    refine wpAnyH_done (by kernel_rfl) ?_ _
    go_wp2
    go_ret
    exact ⟨by rw [E.out]; rfl, R2.out.drew⟩
   | false =>
    have f1 : ((ckK l k).pl == (ckK m k).pl) = true := by simpa using e1
    have F1 := Hid.mk' f1
    clear f1
    cases e2 : ((ckK l k).ct != (ckK m k).ct) with
    | true =>
     have f2 : ((ckK l k).ct == (ckK m k).ct) = false := by simpa using e2
     have E : Hid (sameCs l m = false) := Hid.mk' (by unfold sameCs; rw [decide_eq_true Q.out, allK_false hlt (by rw [P0.out, F1.out, f2]; rfl)]; rfl)
     clear f2
     go_wp2

     refine wp_region_held_drew (S := (fun w' => w'.cell? ⟨b1, o1 + k * 3, none⟩ = some (.int .i64 (ckK l k).pl) ∧ w'.cell? ⟨b1, o1 + k * 3 + 1, none⟩ = some (.int .i64 (ckK l k).ct) ∧ w'.cell? ⟨b1, o1 + k * 3 + 2, none⟩ = some (.slice p1 (ckK l k).hd.length d1) ∧ w'.cell? ⟨b2, o2 + k * 3, none⟩ = some (.int .i64 (ckK m k).pl) ∧ w'.cell? ⟨b2, o2 + k * 3 + 1, none⟩ = some (.int .i64 (ckK m k).ct) ∧ w'.cell? ⟨b2, o2 + k * 3 + 2, none⟩ = some (.slice p2_ (ckK m k).hd.length d2) ∧ Hid (BAt w' p1 (ckK l k).hd) ∧ Hid (BAt w' p2_ (ckK m k).hd))) (by kernel_rfl) (by refine ⟨by simp [*], by simp [*], by simp [*], by simp [*], by simp [*], by simp [*], X3.out.below (Below.refl _ _).drew, Y3.out.below (Below.refl _ _).drew⟩) (fun hHeld => ?_)
     refine tkY 0 ?_
     refine tkY 1 ?_
     refine tkY 2 ?_
     refine tkY 3 ?_
     refine tkY 4 ?_
     refine tkY 5 ?_
     refine tkY 6 ?_
     refine tkY 7 ?_
     refine tkY 8 ?_
     refine tkY 9 ?_
     refine tkY 10 ?_
     refine tkY 11 ?_
     refine tkY 12 ?_
     refine tkY 13 ?_
     refine tkY 14 ?_
     refine tkY 15 ?_
     refine tkY 16 ?_
     refine tkY 17 ?_
     refine tkY 18 ?_
     refine tkY 19 ?_
     refine tkY 20 ?_
     refine tkY 21 ?_
     refine tkY 22 ?_
     refine tkY 23 ?_
     refine tkY 24 ?_
     refine tkU 25 ?_
     refine tkU 26 ?_
     refine tkU 27 ?_
     refine tkU 28 ?_
     refine tkU 29 ?_
     refine tkU 30 ?_
     refine tkU 31 ?_
     refine tkU 32 ?_
     refine tkU 33 ?_
     refine tkU 34 ?_
     refine tkU 35 ?_
     refine tkU 36 ?_
     refine tkU 37 ?_
     refine tkY 38 ?_
     refine wpAnyH_done (by kernel_rfl) ?_ _
     go_wp2
     go_ret
     exact ⟨by rw [E.out]; rfl, R2.out.drew⟩
    | false =>
     have f2 : ((ckK l k).ct == (ckK m k).ct) = true := by simpa using e2
     have F2 := Hid.mk' f2
     clear f2
     cases e3 : ((strI (ckK l k).hd).toList == (strI (ckK m k).hd).toList) with
     | false =>
      have e4 : ((strI (ckK l k).hd).toList != (strI (ckK m k).hd).toList) = true := by simpa using e3
      have E : Hid (sameCs l m = false) := Hid.mk' (by unfold sameCs; rw [decide_eq_true Q.out, allK_false hlt (by rw [P0.out, F1.out, F2.out, e3]; rfl)]; rfl)
      go_wp2

      refine wp_region_held_drew (S := (fun w' => w'.cell? ⟨b1, o1 + k * 3, none⟩ = some (.int .i64 (ckK l k).pl) ∧ w'.cell? ⟨b1, o1 + k * 3 + 1, none⟩ = some (.int .i64 (ckK l k).ct) ∧ w'.cell? ⟨b1, o1 + k * 3 + 2, none⟩ = some (.slice p1 (ckK l k).hd.length d1) ∧ w'.cell? ⟨b2, o2 + k * 3, none⟩ = some (.int .i64 (ckK m k).pl) ∧ w'.cell? ⟨b2, o2 + k * 3 + 1, none⟩ = some (.int .i64 (ckK m k).ct) ∧ w'.cell? ⟨b2, o2 + k * 3 + 2, none⟩ = some (.slice p2_ (ckK m k).hd.length d2) ∧ Hid (BAt w' p1 (ckK l k).hd) ∧ Hid (BAt w' p2_ (ckK m k).hd))) (by kernel_rfl) (by refine ⟨by simp [*], by simp [*], by simp [*], by simp [*], by simp [*], by simp [*], X3.out.below (Below.refl _ _).drew, Y3.out.below (Below.refl _ _).drew⟩) (fun hHeld => ?_)
      refine tkY 0 ?_
      refine tkY 1 ?_
      refine tkY 2 ?_
      refine tkY 3 ?_
      refine tkY 4 ?_
      refine tkY 5 ?_
      refine tkY 6 ?_
      refine tkY 7 ?_
      refine tkY 8 ?_
      refine tkY 9 ?_
      refine tkY 10 ?_
      refine tkY 11 ?_
      refine tkY 12 ?_
      refine tkY 13 ?_
      refine tkY 14 ?_
      refine tkY 15 ?_
      refine tkY 16 ?_
      refine tkY 17 ?_
      refine tkY 18 ?_
      refine tkY 19 ?_
      refine tkY 20 ?_
      refine tkY 21 ?_
      refine tkY 22 ?_
      refine tkY 23 ?_
      refine tkY 24 ?_
      refine tkY 25 ?_
      refine tkY 26 ?_
      refine tkY 27 ?_
      refine tkY 28 ?_
      refine tkY 29 ?_
      refine wpAnyH_take (i := 30) (oi := ⟨_, _, _, _, _, _⟩) (v := .string (strI (ckK l k).hd)) rfl (by kernel_rfl) (by kernel_rfl) (by kernel_rfl) (fun _ _ _ h => h) (Or.inl ⟨by rfl, ?_⟩) (by assumption) ?_
      ·(intro w hSw; have hcv := conv_bytesT d1 hSw.2.2.2.2.2.2.1.out; clear hSw; go_simp; (try with_reducible rfl))
      try simp only [Act.put, zA, zB, zC]
      refine tkY 31 ?_
      refine tkY 32 ?_
      refine tkY 33 ?_
      refine tkY 34 ?_
      refine tkY 35 ?_
      refine wpAnyH_take (i := 36) (oi := ⟨_, _, _, _, _, _⟩) (v := .string (strI (ckK m k).hd)) rfl (by kernel_rfl) (by kernel_rfl) (by kernel_rfl) (fun _ _ _ h => h) (Or.inl ⟨by rfl, ?_⟩) (by assumption) ?_
      ·(intro w hSw; have hcv := conv_bytesT d2 hSw.2.2.2.2.2.2.2.out; clear hSw; go_simp; (try with_reducible rfl))
      try simp only [Act.put, zA, zB, zC]
      refine tkY 37 ?_
      refine tkY 38 ?_
      refine wpAnyH_done (by kernel_rfl) ?_ _
      go_wp2
      go_ret
      exact ⟨by rw [E.out]; rfl, R2.out.drew⟩
     | true =>
      have e4 : ((strI (ckK l k).hd).toList != (strI (ckK m k).hd).toList) = false := by simpa using e3
      have E : Hid (ceq (ckK l k) (ckK m k) = true) := Hid.mk' (by rw [P0.out, F1.out, F2.out, e3]; rfl)
      go_wp2

      refine wp_region_held_drew (S := (fun w' => w'.cell? ⟨b1, o1 + k * 3, none⟩ = some (.int .i64 (ckK l k).pl) ∧ w'.cell? ⟨b1, o1 + k * 3 + 1, none⟩ = some (.int .i64 (ckK l k).ct) ∧ w'.cell? ⟨b1, o1 + k * 3 + 2, none⟩ = some (.slice p1 (ckK l k).hd.length d1) ∧ w'.cell? ⟨b2, o2 + k * 3, none⟩ = some (.int .i64 (ckK m k).pl) ∧ w'.cell? ⟨b2, o2 + k * 3 + 1, none⟩ = some (.int .i64 (ckK m k).ct) ∧ w'.cell? ⟨b2, o2 + k * 3 + 2, none⟩ = some (.slice p2_ (ckK m k).hd.length d2) ∧ Hid (BAt w' p1 (ckK l k).hd) ∧ Hid (BAt w' p2_ (ckK m k).hd))) (by kernel_rfl) (by refine ⟨by simp [*], by simp [*], by simp [*], by simp [*], by simp [*], by simp [*], X3.out.below (Below.refl _ _).drew, Y3.out.below (Below.refl _ _).drew⟩) (fun hHeld => ?_)
      refine tkY 0 ?_
      refine tkY 1 ?_
      refine tkY 2 ?_
      refine tkY 3 ?_
      refine tkY 4 ?_
      refine tkY 5 ?_
      refine tkY 6 ?_
      refine tkY 7 ?_
      refine tkY 8 ?_
      refine tkY 9 ?_
      refine tkY 10 ?_
      refine tkY 11 ?_
      refine tkY 12 ?_
      refine tkY 13 ?_
      refine tkY 14 ?_
      refine tkY 15 ?_
      refine tkY 16 ?_
      refine tkY 17 ?_
      refine tkY 18 ?_
      refine tkY 19 ?_
      refine tkY 20 ?_
      refine tkY 21 ?_
      refine tkY 22 ?_
      refine tkY 23 ?_
      refine tkY 24 ?_
      refine tkY 25 ?_
      refine tkY 26 ?_
      refine tkY 27 ?_
      refine tkY 28 ?_
      refine tkY 29 ?_
      refine wpAnyH_take (i := 30) (oi := ⟨_, _, _, _, _, _⟩) (v := .string (strI (ckK l k).hd)) rfl (by kernel_rfl) (by kernel_rfl) (by kernel_rfl) (fun _ _ _ h => h) (Or.inl ⟨by rfl, ?_⟩) (by assumption) ?_
      ·(intro w hSw; have hcv := conv_bytesT d1 hSw.2.2.2.2.2.2.1.out; clear hSw; go_simp; (try with_reducible rfl))
      try simp only [Act.put, zA, zB, zC]
      refine tkY 31 ?_
      refine tkY 32 ?_
      refine tkY 33 ?_
      refine tkY 34 ?_
      refine tkY 35 ?_
      refine wpAnyH_take (i := 36) (oi := ⟨_, _, _, _, _, _⟩) (v := .string (strI (ckK m k).hd)) rfl (by kernel_rfl) (by kernel_rfl) (by kernel_rfl) (fun _ _ _ h => h) (Or.inl ⟨by rfl, ?_⟩) (by assumption) ?_
      ·(intro w hSw; have hcv := conv_bytesT d2 hSw.2.2.2.2.2.2.2.out; clear hSw; go_simp; (try with_reducible rfl))
      try simp only [Act.put, zA, zB, zC]
      refine tkY 37 ?_
      refine tkY 38 ?_
      refine wpAnyH_done (by kernel_rfl) ?_ _
      go_wp2
      go_roundw
      case rel => exact ⟨k + 1, by omega, by go_num, fun j hj => by
       by_cases h : j = k
       ·subst h; exact E.out
       ·exact HN.out j (by omega), R2.out.drew⟩
      case measure => simp [intOf]; omega
  ·have ci : ¬ (k : Int) < (l.length : Int) := by omega
   have e : k = l.length := by omega
   subst e
   have E : Hid (sameCs l m = true) := Hid.mk' (by unfold sameCs; rw [decide_eq_true Q.out, allK_true HN.out]; rfl)
   go_wp2
   go_ret
   exact ⟨by rw [E.out]; rfl, R2.out⟩
structure P2 (g1 g2 : Nat) (m n : ME) (a t u c a2 t2 u2 c2 : Option Addr) (ca ct cu cc da dt du dc : Nat) (wi : World) : Prop where
 r1 : wi.rowIs g1 27 5 (r5 (.slice a m.dt.length ca) (.int .i64 m.st) (.slice t m.tk.length ct) (.slice u m.hd.length cu) (.slice c m.cs.length cc))
 r2 : wi.rowIs g2 27 5 (r5 (.slice a2 n.dt.length da) (.int .i64 n.st) (.slice t2 n.tk.length dt) (.slice u2 n.hd.length du) (.slice c2 n.cs.length dc))
 m1 : MAt wi a t u c m
 m2 : MAt wi a2 t2 u2 c2 n
theorem l12Same_any (g1 g2 : Nat) (m n : ME) (a t u c a2 t2 u2 c2 : Option Addr) (ca ct cu cc da dt du dc : Nat) (w : World) (hp : P2 g1 g2 m n a t u c a2 t2 u2 c2 ca ct cu cc da dt du dc w) (hl : (msz m : Int) ≤ 1048576) (hm : (msz n : Int) ≤ 1048576) :
  Calls Tryz.prog 48 #[.pointer (some ⟨g1, 0, none⟩), .pointer (some ⟨g2, 0, none⟩)] w fun e w' => e = .returned (.bool (sameM m n)) ∧ Below w.heap.size w w' := by
 have MS : (msz m : Int) = m.dt.length + m.tk.length + tssz m.tk + m.hd.length + m.cs.length + csz m.cs := by unfold msz; omega
 have NS : (msz n : Int) = n.dt.length + n.tk.length + tssz n.tk + n.hd.length + n.cs.length + csz n.cs := by unfold msz; omega
 have s1 : (m.tk.length : Int) + tssz m.tk ≤ 1048576 := by omega
 have s2 : (n.tk.length : Int) + tssz n.tk ≤ 1048576 := by omega
 have s3 : (m.cs.length : Int) + csz m.cs ≤ 1048576 := by omega
 have s4 : (n.cs.length : Int) + csz n.cs ≤ 1048576 := by omega
 have HP := Hid.mk' hp
 have E : Hid (sameM m n = (((strI m.dt).toList == (strI n.dt).toList) && ((m.st == n.st) && (sameTs m.tk n.tk && (((strI m.hd).toList == (strI n.hd).toList) && sameCs m.cs n.cs))))) := Hid.mk' rfl
 obtain ⟨x0, x1, x2, x3, x4, x5⟩ := cells5 hp.r1
 obtain ⟨y0, y1, y2, y3, y4, y5⟩ := cells5 hp.r2
 clear MS NS hl hm hp

 have HCE : Hid (∀ v, Below w.heap.size w v → (fun w' => w'.cell? ⟨g1, 0, none⟩ = some (.slice a m.dt.length ca) ∧ w'.cell? ⟨g1, 1, none⟩ = some (.int .i64 m.st) ∧ w'.cell? ⟨g1, 2, none⟩ = some (.slice t m.tk.length ct) ∧ w'.cell? ⟨g1, 3, none⟩ = some (.slice u m.hd.length cu) ∧ w'.cell? ⟨g1, 4, none⟩ = some (.slice c m.cs.length cc) ∧ w'.cell? ⟨g2, 0, none⟩ = some (.slice a2 n.dt.length da) ∧ w'.cell? ⟨g2, 1, none⟩ = some (.int .i64 n.st) ∧ w'.cell? ⟨g2, 2, none⟩ = some (.slice t2 n.tk.length dt) ∧ w'.cell? ⟨g2, 3, none⟩ = some (.slice u2 n.hd.length du) ∧ w'.cell? ⟨g2, 4, none⟩ = some (.slice c2 n.cs.length dc) ∧ Hid (BAt w' a m.dt) ∧ Hid (BAt w' a2 n.dt) ∧ Hid (BAt w' u m.hd) ∧ Hid (BAt w' u2 n.hd)) v) := Hid.mk' (fun v hb => ⟨(hb.cell x5).trans x0, (hb.cell x5).trans x1, (hb.cell x5).trans x2, (hb.cell x5).trans x3, (hb.cell x5).trans x4, (hb.cell y5).trans y0, (hb.cell y5).trans y1, (hb.cell y5).trans y2, (hb.cell y5).trans y3, (hb.cell y5).trans y4, HP.out.m1.1.below hb, HP.out.m2.1.below hb, HP.out.m1.2.2.1.below hb, HP.out.m2.2.2.1.below hb⟩)
 have KT : Hid (∀ v, Below w.heap.size w v → Calls Tryz.prog 80 #[.slice t m.tk.length ct, .slice t2 n.tk.length dt] v fun e w' => e = .returned (.bool (sameTs m.tk n.tk)) ∧ Below v.heap.size v w') := Hid.mk' (fun v hb => specSame_any t t2 ct dt m.tk n.tk v (HP.out.m1.2.1.below hb) (HP.out.m2.2.1.below hb) s1 s2)
 have KC : Hid (∀ v, Below w.heap.size w v → Calls Tryz.prog 81 #[.slice c m.cs.length cc, .slice c2 n.cs.length dc] v fun e w' => e = .returned (.bool (sameCs m.cs n.cs)) ∧ Below v.heap.size v w') := Hid.mk' (fun v hb => l12SameChecks_any c c2 cc dc m.cs n.cs v (HP.out.m1.2.2.2.below hb) (HP.out.m2.2.2.2.below hb) s3 s4)
 clear HP
 cases e1 : ((strI m.dt).toList == (strI n.dt).toList) with
 | false =>
  go_enter Tryz.func48, Tryz.ntmps48
  go_wp2
  refine wp_region_held_drew (S := (fun w' => w'.cell? ⟨g1, 0, none⟩ = some (.slice a m.dt.length ca) ∧ w'.cell? ⟨g1, 1, none⟩ = some (.int .i64 m.st) ∧ w'.cell? ⟨g1, 2, none⟩ = some (.slice t m.tk.length ct) ∧ w'.cell? ⟨g1, 3, none⟩ = some (.slice u m.hd.length cu) ∧ w'.cell? ⟨g1, 4, none⟩ = some (.slice c m.cs.length cc) ∧ w'.cell? ⟨g2, 0, none⟩ = some (.slice a2 n.dt.length da) ∧ w'.cell? ⟨g2, 1, none⟩ = some (.int .i64 n.st) ∧ w'.cell? ⟨g2, 2, none⟩ = some (.slice t2 n.tk.length dt) ∧ w'.cell? ⟨g2, 3, none⟩ = some (.slice u2 n.hd.length du) ∧ w'.cell? ⟨g2, 4, none⟩ = some (.slice c2 n.cs.length dc) ∧ Hid (BAt w' a m.dt) ∧ Hid (BAt w' a2 n.dt) ∧ Hid (BAt w' u m.hd) ∧ Hid (BAt w' u2 n.hd))) (by kernel_rfl) (HCE.out _ (Below.refl _ _).drew) (fun hHeld => ?_)
  refine tkY 0 ?_
  refine tkY 1 ?_
  refine tkY 2 ?_
  refine tkY 3 ?_
  refine wpAnyH_take (i := 4) (oi := ⟨_, _, _, _, _, _⟩) (v := .string (strI m.dt)) rfl (by kernel_rfl) (by kernel_rfl) (by kernel_rfl) (fun _ _ _ h => h) (Or.inl ⟨by rfl, ?_⟩) (by assumption) ?_
  ·(intro w hSw; have hcv := conv_bytesT ca hSw.2.2.2.2.2.2.2.2.2.2.1.out; clear hSw; go_simp; (try with_reducible rfl))
  try simp only [Act.put, zA, zB, zC]
  refine tkY 5 ?_
  refine tkY 6 ?_
  refine tkY 7 ?_
  refine tkY 8 ?_
  refine wpAnyH_take (i := 9) (oi := ⟨_, _, _, _, _, _⟩) (v := .string (strI n.dt)) rfl (by kernel_rfl) (by kernel_rfl) (by kernel_rfl) (fun _ _ _ h => h) (Or.inl ⟨by rfl, ?_⟩) (by assumption) ?_
  ·(intro w hSw; have hcv := conv_bytesT da hSw.2.2.2.2.2.2.2.2.2.2.2.1.out; clear hSw; go_simp; (try with_reducible rfl))
  try simp only [Act.put, zA, zB, zC]
  refine tkY 10 ?_
  refine tkY 11 ?_
  refine tkU 12 ?_
  refine tkU 13 ?_
  refine tkU 14 ?_
  refine tkU 15 ?_
  refine tkU 16 ?_
  refine tkU 17 ?_
  refine tkU 18 ?_
  refine tkU 19 ?_
  refine tkU 20 ?_
  refine tkY 21 ?_
  refine tkY 22 ?_
  refine tkU 23 ?_
  refine tkU 24 ?_
  refine tkU 25 ?_
  refine tkU 26 ?_
  refine tkU 27 ?_
  refine tkU 28 ?_
  refine tkU 29 ?_
  refine tkU 30 ?_
  refine tkU 31 ?_
  refine tkY 32 ?_
  refine tkY 33 ?_
  refine tkU 34 ?_
  refine tkU 35 ?_
  refine tkU 36 ?_
  refine tkU 37 ?_
  refine tkU 38 ?_
  refine tkU 39 ?_
  refine tkU 40 ?_
  refine tkU 41 ?_
  refine tkU 42 ?_
  refine tkU 43 ?_
  refine tkU 44 ?_
  refine tkY 45 ?_
  refine tkY 46 ?_
  refine tkU 47 ?_
  refine tkU 48 ?_
  refine tkU 49 ?_
  refine tkU 50 ?_
  refine tkU 51 ?_
  refine tkU 52 ?_
  refine tkU 53 ?_
  refine tkU 54 ?_
  refine tkU 55 ?_
  refine tkY 56 ?_
  refine tkY 57 ?_
  refine wpAnyH_done (by kernel_rfl) ?_ _
  go_wp2
  go_ret
  exact ⟨by rw [E.out, e1]; first | rfl | simp, (Below.refl _ _).drew⟩
 | true =>
 cases e2 : (m.st == n.st) with
 | false =>
  go_enter Tryz.func48, Tryz.ntmps48
  go_wp2
  refine wp_region_held_drew (S := (fun w' => w'.cell? ⟨g1, 0, none⟩ = some (.slice a m.dt.length ca) ∧ w'.cell? ⟨g1, 1, none⟩ = some (.int .i64 m.st) ∧ w'.cell? ⟨g1, 2, none⟩ = some (.slice t m.tk.length ct) ∧ w'.cell? ⟨g1, 3, none⟩ = some (.slice u m.hd.length cu) ∧ w'.cell? ⟨g1, 4, none⟩ = some (.slice c m.cs.length cc) ∧ w'.cell? ⟨g2, 0, none⟩ = some (.slice a2 n.dt.length da) ∧ w'.cell? ⟨g2, 1, none⟩ = some (.int .i64 n.st) ∧ w'.cell? ⟨g2, 2, none⟩ = some (.slice t2 n.tk.length dt) ∧ w'.cell? ⟨g2, 3, none⟩ = some (.slice u2 n.hd.length du) ∧ w'.cell? ⟨g2, 4, none⟩ = some (.slice c2 n.cs.length dc) ∧ Hid (BAt w' a m.dt) ∧ Hid (BAt w' a2 n.dt) ∧ Hid (BAt w' u m.hd) ∧ Hid (BAt w' u2 n.hd))) (by kernel_rfl) (HCE.out _ (Below.refl _ _).drew) (fun hHeld => ?_)
  refine tkY 0 ?_
  refine tkY 1 ?_
  refine tkY 2 ?_
  refine tkY 3 ?_
  refine wpAnyH_take (i := 4) (oi := ⟨_, _, _, _, _, _⟩) (v := .string (strI m.dt)) rfl (by kernel_rfl) (by kernel_rfl) (by kernel_rfl) (fun _ _ _ h => h) (Or.inl ⟨by rfl, ?_⟩) (by assumption) ?_
  ·(intro w hSw; have hcv := conv_bytesT ca hSw.2.2.2.2.2.2.2.2.2.2.1.out; clear hSw; go_simp; (try with_reducible rfl))
  try simp only [Act.put, zA, zB, zC]
  refine tkY 5 ?_
  refine tkY 6 ?_
  refine tkY 7 ?_
  refine tkY 8 ?_
  refine wpAnyH_take (i := 9) (oi := ⟨_, _, _, _, _, _⟩) (v := .string (strI n.dt)) rfl (by kernel_rfl) (by kernel_rfl) (by kernel_rfl) (fun _ _ _ h => h) (Or.inl ⟨by rfl, ?_⟩) (by assumption) ?_
  ·(intro w hSw; have hcv := conv_bytesT da hSw.2.2.2.2.2.2.2.2.2.2.2.1.out; clear hSw; go_simp; (try with_reducible rfl))
  try simp only [Act.put, zA, zB, zC]
  refine tkY 10 ?_
  refine tkY 11 ?_
  refine tkY 12 ?_
  refine tkY 13 ?_
  refine tkY 14 ?_
  refine tkY 15 ?_
  refine tkY 16 ?_
  refine tkY 17 ?_
  refine tkY 18 ?_
  refine tkY 19 ?_
  refine tkY 20 ?_
  refine tkY 21 ?_
  refine tkY 22 ?_
  refine tkU 23 ?_
  refine tkU 24 ?_
  refine tkU 25 ?_
  refine tkU 26 ?_
  refine tkU 27 ?_
  refine tkU 28 ?_
  refine tkU 29 ?_
  refine tkU 30 ?_
  refine tkU 31 ?_
  refine tkY 32 ?_
  refine tkY 33 ?_
  refine tkU 34 ?_
  refine tkU 35 ?_
  refine tkU 36 ?_
  refine tkU 37 ?_
  refine tkU 38 ?_
  refine tkU 39 ?_
  refine tkU 40 ?_
  refine tkU 41 ?_
  refine tkU 42 ?_
  refine tkU 43 ?_
  refine tkU 44 ?_
  refine tkY 45 ?_
  refine tkY 46 ?_
  refine tkU 47 ?_
  refine tkU 48 ?_
  refine tkU 49 ?_
  refine tkU 50 ?_
  refine tkU 51 ?_
  refine tkU 52 ?_
  refine tkU 53 ?_
  refine tkU 54 ?_
  refine tkU 55 ?_
  refine tkY 56 ?_
  refine tkY 57 ?_
  refine wpAnyH_done (by kernel_rfl) ?_ _
  go_wp2
  go_ret
  exact ⟨by rw [E.out, e1, e2]; first | rfl | simp, (Below.refl _ _).drew⟩
 | true =>
 cases e3 : sameTs m.tk n.tk with
 | false =>
  rw [e3] at KT
  go_enter Tryz.func48, Tryz.ntmps48
  go_wp2
  refine wp_region_held_drew (S := (fun w' => w'.cell? ⟨g1, 0, none⟩ = some (.slice a m.dt.length ca) ∧ w'.cell? ⟨g1, 1, none⟩ = some (.int .i64 m.st) ∧ w'.cell? ⟨g1, 2, none⟩ = some (.slice t m.tk.length ct) ∧ w'.cell? ⟨g1, 3, none⟩ = some (.slice u m.hd.length cu) ∧ w'.cell? ⟨g1, 4, none⟩ = some (.slice c m.cs.length cc) ∧ w'.cell? ⟨g2, 0, none⟩ = some (.slice a2 n.dt.length da) ∧ w'.cell? ⟨g2, 1, none⟩ = some (.int .i64 n.st) ∧ w'.cell? ⟨g2, 2, none⟩ = some (.slice t2 n.tk.length dt) ∧ w'.cell? ⟨g2, 3, none⟩ = some (.slice u2 n.hd.length du) ∧ w'.cell? ⟨g2, 4, none⟩ = some (.slice c2 n.cs.length dc) ∧ Hid (BAt w' a m.dt) ∧ Hid (BAt w' a2 n.dt) ∧ Hid (BAt w' u m.hd) ∧ Hid (BAt w' u2 n.hd))) (by kernel_rfl) (HCE.out _ (Below.refl _ _).drew) (fun hHeld => ?_)
  refine tkY 0 ?_
  refine tkY 1 ?_
  refine tkY 2 ?_
  refine tkY 3 ?_
  refine wpAnyH_take (i := 4) (oi := ⟨_, _, _, _, _, _⟩) (v := .string (strI m.dt)) rfl (by kernel_rfl) (by kernel_rfl) (by kernel_rfl) (fun _ _ _ h => h) (Or.inl ⟨by rfl, ?_⟩) (by assumption) ?_
  ·(intro w hSw; have hcv := conv_bytesT ca hSw.2.2.2.2.2.2.2.2.2.2.1.out; clear hSw; go_simp; (try with_reducible rfl))
  try simp only [Act.put, zA, zB, zC]
  refine tkY 5 ?_
  refine tkY 6 ?_
  refine tkY 7 ?_
  refine tkY 8 ?_
  refine wpAnyH_take (i := 9) (oi := ⟨_, _, _, _, _, _⟩) (v := .string (strI n.dt)) rfl (by kernel_rfl) (by kernel_rfl) (by kernel_rfl) (fun _ _ _ h => h) (Or.inl ⟨by rfl, ?_⟩) (by assumption) ?_
  ·(intro w hSw; have hcv := conv_bytesT da hSw.2.2.2.2.2.2.2.2.2.2.2.1.out; clear hSw; go_simp; (try with_reducible rfl))
  try simp only [Act.put, zA, zB, zC]
  refine tkY 10 ?_
  refine tkY 11 ?_
  refine tkY 12 ?_
  refine tkY 13 ?_
  refine tkY 14 ?_
  refine tkY 15 ?_
  refine tkY 16 ?_
  refine tkY 17 ?_
  refine tkY 18 ?_
  refine tkY 19 ?_
  refine tkY 20 ?_
  refine tkY 21 ?_
  refine tkY 22 ?_
  refine tkY 23 ?_
  refine tkY 24 ?_
  refine tkY 25 ?_
  refine tkY 26 ?_
  refine tkY 27 ?_
  refine tkY 28 ?_
  refine tkY 29 ?_
  refine tkY 30 ?_
  refine wpAnyH_ready (rs := [31]) (by kernel_rfl) (by simp) ?_
  refine AllReadyH.cons (o := ⟨_, _, _, _, _, _⟩) rfl (fun K hK => ?_) AllReadyH.nil
  go_simp
  refine (KT.out _ (Below.refl _ _).drew).mono ?_
  rintro e w1 ⟨rfl, hb1⟩
  replace hb1 := undrew hb1
  have HB1 := Hid.mk' hb1
  have S1 := Hid.mk' (HCE.out w1 hb1)
  clear hb1
  refine hK.out _ _ S1.out (fun hHeld => ?_)
  clear hK K
  try simp only [Act.put, zA, zB, zC]
  refine tkY 32 ?_
  refine tkY 33 ?_
  refine tkU 34 ?_
  refine tkU 35 ?_
  refine tkU 36 ?_
  refine tkU 37 ?_
  refine tkU 38 ?_
  refine tkU 39 ?_
  refine tkU 40 ?_
  refine tkU 41 ?_
  refine tkU 42 ?_
  refine tkU 43 ?_
  refine tkU 44 ?_
  refine tkY 45 ?_
  refine tkY 46 ?_
  refine tkU 47 ?_
  refine tkU 48 ?_
  refine tkU 49 ?_
  refine tkU 50 ?_
  refine tkU 51 ?_
  refine tkU 52 ?_
  refine tkU 53 ?_
  refine tkU 54 ?_
  refine tkU 55 ?_
  refine tkY 56 ?_
  refine tkY 57 ?_
  refine wpAnyH_done (by kernel_rfl) ?_ _
  go_wp2
  go_ret
  exact ⟨by rw [E.out, e1, e2, e3]; first | rfl | simp, HB1.out⟩
 | true =>
 rw [e3] at KT
 cases e4 : ((strI m.hd).toList == (strI n.hd).toList) with
 | false =>
  go_enter Tryz.func48, Tryz.ntmps48
  go_wp2
  refine wp_region_held_drew (S := (fun w' => w'.cell? ⟨g1, 0, none⟩ = some (.slice a m.dt.length ca) ∧ w'.cell? ⟨g1, 1, none⟩ = some (.int .i64 m.st) ∧ w'.cell? ⟨g1, 2, none⟩ = some (.slice t m.tk.length ct) ∧ w'.cell? ⟨g1, 3, none⟩ = some (.slice u m.hd.length cu) ∧ w'.cell? ⟨g1, 4, none⟩ = some (.slice c m.cs.length cc) ∧ w'.cell? ⟨g2, 0, none⟩ = some (.slice a2 n.dt.length da) ∧ w'.cell? ⟨g2, 1, none⟩ = some (.int .i64 n.st) ∧ w'.cell? ⟨g2, 2, none⟩ = some (.slice t2 n.tk.length dt) ∧ w'.cell? ⟨g2, 3, none⟩ = some (.slice u2 n.hd.length du) ∧ w'.cell? ⟨g2, 4, none⟩ = some (.slice c2 n.cs.length dc) ∧ Hid (BAt w' a m.dt) ∧ Hid (BAt w' a2 n.dt) ∧ Hid (BAt w' u m.hd) ∧ Hid (BAt w' u2 n.hd))) (by kernel_rfl) (HCE.out _ (Below.refl _ _).drew) (fun hHeld => ?_)
  refine tkY 0 ?_
  refine tkY 1 ?_
  refine tkY 2 ?_
  refine tkY 3 ?_
  refine wpAnyH_take (i := 4) (oi := ⟨_, _, _, _, _, _⟩) (v := .string (strI m.dt)) rfl (by kernel_rfl) (by kernel_rfl) (by kernel_rfl) (fun _ _ _ h => h) (Or.inl ⟨by rfl, ?_⟩) (by assumption) ?_
  ·(intro w hSw; have hcv := conv_bytesT ca hSw.2.2.2.2.2.2.2.2.2.2.1.out; clear hSw; go_simp; (try with_reducible rfl))
  try simp only [Act.put, zA, zB, zC]
  refine tkY 5 ?_
  refine tkY 6 ?_
  refine tkY 7 ?_
  refine tkY 8 ?_
  refine wpAnyH_take (i := 9) (oi := ⟨_, _, _, _, _, _⟩) (v := .string (strI n.dt)) rfl (by kernel_rfl) (by kernel_rfl) (by kernel_rfl) (fun _ _ _ h => h) (Or.inl ⟨by rfl, ?_⟩) (by assumption) ?_
  ·(intro w hSw; have hcv := conv_bytesT da hSw.2.2.2.2.2.2.2.2.2.2.2.1.out; clear hSw; go_simp; (try with_reducible rfl))
  try simp only [Act.put, zA, zB, zC]
  refine tkY 10 ?_
  refine tkY 11 ?_
  refine tkY 12 ?_
  refine tkY 13 ?_
  refine tkY 14 ?_
  refine tkY 15 ?_
  refine tkY 16 ?_
  refine tkY 17 ?_
  refine tkY 18 ?_
  refine tkY 19 ?_
  refine tkY 20 ?_
  refine tkY 21 ?_
  refine tkY 22 ?_
  refine tkY 23 ?_
  refine tkY 24 ?_
  refine tkY 25 ?_
  refine tkY 26 ?_
  refine tkY 27 ?_
  refine tkY 28 ?_
  refine tkY 29 ?_
  refine tkY 30 ?_
  refine wpAnyH_ready (rs := [31]) (by kernel_rfl) (by simp) ?_
  refine AllReadyH.cons (o := ⟨_, _, _, _, _, _⟩) rfl (fun K hK => ?_) AllReadyH.nil
  go_simp
  refine (KT.out _ (Below.refl _ _).drew).mono ?_
  rintro e w1 ⟨rfl, hb1⟩
  replace hb1 := undrew hb1
  have HB1 := Hid.mk' hb1
  have S1 := Hid.mk' (HCE.out w1 hb1)
  clear hb1
  refine hK.out _ _ S1.out (fun hHeld => ?_)
  clear hK K
  try simp only [Act.put, zA, zB, zC]
  refine tkY 32 ?_
  refine tkY 33 ?_
  refine tkY 34 ?_
  refine tkY 35 ?_
  refine tkY 36 ?_
  refine tkY 37 ?_
  refine wpAnyH_take (i := 38) (oi := ⟨_, _, _, _, _, _⟩) (v := .string (strI m.hd)) rfl (by kernel_rfl) (by kernel_rfl) (by kernel_rfl) (fun _ _ _ h => h) (Or.inl ⟨by rfl, ?_⟩) (by assumption) ?_
  ·(intro w hSw; have hcv := conv_bytesT cu hSw.2.2.2.2.2.2.2.2.2.2.2.2.1.out; clear hSw; go_simp; (try with_reducible rfl))
  try simp only [Act.put, zA, zB, zC]
  refine tkY 39 ?_
  refine tkY 40 ?_
  refine tkY 41 ?_
  refine tkY 42 ?_
  refine wpAnyH_take (i := 43) (oi := ⟨_, _, _, _, _, _⟩) (v := .string (strI n.hd)) rfl (by kernel_rfl) (by kernel_rfl) (by kernel_rfl) (fun _ _ _ h => h) (Or.inl ⟨by rfl, ?_⟩) (by assumption) ?_
  ·(intro w hSw; have hcv := conv_bytesT du hSw.2.2.2.2.2.2.2.2.2.2.2.2.2.out; clear hSw; go_simp; (try with_reducible rfl))
  try simp only [Act.put, zA, zB, zC]
  refine tkY 44 ?_
  refine tkY 45 ?_
  refine tkY 46 ?_
  refine tkU 47 ?_
  refine tkU 48 ?_
  refine tkU 49 ?_
  refine tkU 50 ?_
  refine tkU 51 ?_
  refine tkU 52 ?_
  refine tkU 53 ?_
  refine tkU 54 ?_
  refine tkU 55 ?_
  refine tkY 56 ?_
  refine tkY 57 ?_
  refine wpAnyH_done (by kernel_rfl) ?_ _
  go_wp2
  go_ret
  exact ⟨by rw [E.out, e1, e2, e3, e4]; first | rfl | simp, HB1.out⟩
 | true =>
  generalize hq : sameCs m.cs n.cs = Q at *
  go_enter Tryz.func48, Tryz.ntmps48
  go_wp2
  refine wp_region_held_drew (S := (fun w' => w'.cell? ⟨g1, 0, none⟩ = some (.slice a m.dt.length ca) ∧ w'.cell? ⟨g1, 1, none⟩ = some (.int .i64 m.st) ∧ w'.cell? ⟨g1, 2, none⟩ = some (.slice t m.tk.length ct) ∧ w'.cell? ⟨g1, 3, none⟩ = some (.slice u m.hd.length cu) ∧ w'.cell? ⟨g1, 4, none⟩ = some (.slice c m.cs.length cc) ∧ w'.cell? ⟨g2, 0, none⟩ = some (.slice a2 n.dt.length da) ∧ w'.cell? ⟨g2, 1, none⟩ = some (.int .i64 n.st) ∧ w'.cell? ⟨g2, 2, none⟩ = some (.slice t2 n.tk.length dt) ∧ w'.cell? ⟨g2, 3, none⟩ = some (.slice u2 n.hd.length du) ∧ w'.cell? ⟨g2, 4, none⟩ = some (.slice c2 n.cs.length dc) ∧ Hid (BAt w' a m.dt) ∧ Hid (BAt w' a2 n.dt) ∧ Hid (BAt w' u m.hd) ∧ Hid (BAt w' u2 n.hd))) (by kernel_rfl) (HCE.out _ (Below.refl _ _).drew) (fun hHeld => ?_)
  refine tkY 0 ?_
  refine tkY 1 ?_
  refine tkY 2 ?_
  refine tkY 3 ?_
  refine wpAnyH_take (i := 4) (oi := ⟨_, _, _, _, _, _⟩) (v := .string (strI m.dt)) rfl (by kernel_rfl) (by kernel_rfl) (by kernel_rfl) (fun _ _ _ h => h) (Or.inl ⟨by rfl, ?_⟩) (by assumption) ?_
  ·(intro w hSw; have hcv := conv_bytesT ca hSw.2.2.2.2.2.2.2.2.2.2.1.out; clear hSw; go_simp; (try with_reducible rfl))
  try simp only [Act.put, zA, zB, zC]
  refine tkY 5 ?_
  refine tkY 6 ?_
  refine tkY 7 ?_
  refine tkY 8 ?_
  refine wpAnyH_take (i := 9) (oi := ⟨_, _, _, _, _, _⟩) (v := .string (strI n.dt)) rfl (by kernel_rfl) (by kernel_rfl) (by kernel_rfl) (fun _ _ _ h => h) (Or.inl ⟨by rfl, ?_⟩) (by assumption) ?_
  ·(intro w hSw; have hcv := conv_bytesT da hSw.2.2.2.2.2.2.2.2.2.2.2.1.out; clear hSw; go_simp; (try with_reducible rfl))
  try simp only [Act.put, zA, zB, zC]
  refine tkY 10 ?_
  refine tkY 11 ?_
  refine tkY 12 ?_
  refine tkY 13 ?_
  refine tkY 14 ?_
  refine tkY 15 ?_
  refine tkY 16 ?_
  refine tkY 17 ?_
  refine tkY 18 ?_
  refine tkY 19 ?_
  refine tkY 20 ?_
  refine tkY 21 ?_
  refine tkY 22 ?_
  refine tkY 23 ?_
  refine tkY 24 ?_
  refine tkY 25 ?_
  refine tkY 26 ?_
  refine tkY 27 ?_
  refine tkY 28 ?_
  refine tkY 29 ?_
  refine tkY 30 ?_
  refine wpAnyH_ready (rs := [31]) (by kernel_rfl) (by simp) ?_
  refine AllReadyH.cons (o := ⟨_, _, _, _, _, _⟩) rfl (fun K hK => ?_) AllReadyH.nil
  go_simp
  refine (KT.out _ (Below.refl _ _).drew).mono ?_
  rintro e w1 ⟨rfl, hb1⟩
  replace hb1 := undrew hb1
  have HB1 := Hid.mk' hb1
  have S1 := Hid.mk' (HCE.out w1 hb1)
  clear hb1
  refine hK.out _ _ S1.out (fun hHeld => ?_)
  clear hK K
  try simp only [Act.put, zA, zB, zC]
  refine tkY 32 ?_
  refine tkY 33 ?_
  refine tkY 34 ?_
  refine tkY 35 ?_
  refine tkY 36 ?_
  refine tkY 37 ?_
  refine wpAnyH_take (i := 38) (oi := ⟨_, _, _, _, _, _⟩) (v := .string (strI m.hd)) rfl (by kernel_rfl) (by kernel_rfl) (by kernel_rfl) (fun _ _ _ h => h) (Or.inl ⟨by rfl, ?_⟩) (by assumption) ?_
  ·(intro w hSw; have hcv := conv_bytesT cu hSw.2.2.2.2.2.2.2.2.2.2.2.2.1.out; clear hSw; go_simp; (try with_reducible rfl))
  try simp only [Act.put, zA, zB, zC]
  refine tkY 39 ?_
  refine tkY 40 ?_
  refine tkY 41 ?_
  refine tkY 42 ?_
  refine wpAnyH_take (i := 43) (oi := ⟨_, _, _, _, _, _⟩) (v := .string (strI n.hd)) rfl (by kernel_rfl) (by kernel_rfl) (by kernel_rfl) (fun _ _ _ h => h) (Or.inl ⟨by rfl, ?_⟩) (by assumption) ?_
  ·(intro w hSw; have hcv := conv_bytesT du hSw.2.2.2.2.2.2.2.2.2.2.2.2.2.out; clear hSw; go_simp; (try with_reducible rfl))
  try simp only [Act.put, zA, zB, zC]
  refine tkY 44 ?_
  refine tkY 45 ?_
  refine tkY 46 ?_
  refine tkY 47 ?_
  refine tkY 48 ?_
  refine tkY 49 ?_
  refine tkY 50 ?_
  refine tkY 51 ?_
  refine tkY 52 ?_
  refine tkY 53 ?_
  refine tkY 54 ?_
  refine wpAnyH_ready (rs := [55]) (by kernel_rfl) (by simp) ?_
  refine AllReadyH.cons (o := ⟨_, _, _, _, _, _⟩) rfl (fun K hK => ?_) AllReadyH.nil
  go_simp
  refine (KC.out _ HB1.out).mono ?_
  rintro e w2 ⟨rfl, hb2⟩
  have HB2 := Hid.mk' (HB1.out.trans (hb2.mono HB1.out.size))
  have S2 := Hid.mk' (HCE.out w2 HB2.out)
  clear hb2
  refine hK.out _ _ S2.out (fun hHeld => ?_)
  clear hK K
  try simp only [Act.put, zA, zB, zC]
  refine tkY 56 ?_
  refine tkY 57 ?_
  refine wpAnyH_done (by kernel_rfl) ?_ _
  go_wp2
  go_ret
  exact ⟨by rw [E.out, e1, e2, e3, e4]; first | rfl | (cases Q <;> rfl), HB2.out⟩
def FfP (h0 d : List Int) (w : World) (e : Ending) (w' : World) : Prop :=
 ∃ hv tv us rs bl bh lo g, e = .returned (.agg #[.int .i64 0, tv, hv]) ∧ w.heap.size ≤ lo ∧ LX lo g w' hv tv (allX [] h0 d).2 (allX [] h0 d).1 us rs bl bh ∧ Below w.heap.size w w'
theorem allX_from : ∀ (l : List Int) (ts : List TK) (hs : List Int), allX ts hs l = (ts ++ (allX [] hs l).1, (allX [] hs l).2)
 | [], ts, hs => by simp [allX]
 | x :: l, ts, hs => by
  have e : ∀ ts, allX ts hs (x :: l) = allX (ts ++ (feedX hs x.toNat).1) (feedX hs x.toNat).2 l := fun _ => rfl
  rw [e ts, e [], allX_from l (ts ++ _), allX_from l ([] ++ _)]
  simp
def ckAt (d : List Int) (s j : Nat) : CK := ⟨((j * s : Nat) : Int), ((allX [] [] (d.take (j * s))).1.length : Nat), (allX [] [] (d.take (j * s))).2⟩
def cksN (d : List Int) (s n : Nat) : List CK := (List.range n).map (ckAt d s)
theorem cksN_len (d : List Int) (s n : Nat) : (cksN d s n).length = n := by simp [cksN]
theorem cksN_at (d : List Int) (s n j : Nat) (h : j < n) : ckK (cksN d s n) j = ckAt d s j := by unfold ckK cksN; simp [h]
def memX (d : List Int) (s : Nat) : ME := ⟨d, (s : Int), (allX [] [] d).1, (allX [] [] d).2, cksN d s (d.length / s + 1)⟩
theorem allX_step (d : List Int) (s j : Nat) : allX [] [] (d.take ((j + 1) * s)) = ((allX [] [] (d.take (j * s))).1 ++ (allX [] (allX [] [] (d.take (j * s))).2 ((d.drop (j * s)).take s)).1, (allX [] (allX [] [] (d.take (j * s))).2 ((d.drop (j * s)).take s)).2) := by
 rw [show (j + 1) * s = j * s + s by rw [Nat.add_mul]; omega, List.take_add, allX_append, allX_from]
theorem feedFrom_any (tp : TypeId) (pv : Value) (h0 : List Int) (ah : Option Addr) (ch : Nat) (d : List Int) (ad : Option Addr) (cd : Nat) (w : World) (hE : Env w.heap.size tp pv w) (hh : BAt w ah h0) (hgd : GoodH h0) (hub : Byt h0) (hd : BAt w ad d) (hu : Byt d) (hl : d.length ≤ 240) :
  Calls Tryz.prog 15 #[.agg #[.slice ah h0.length ch], .slice ad d.length cd] w fun e w' => FfP h0 d w e w' := by
 obtain ⟨N0, x0, RR⟩ := boxesF w (.slice ah h0.length ch)
 have hgl := hgd.len
 have HH0 := Hid.mk' (hh.below N0)
 have HG0 := Hid.mk' hgd
 have HU0 := Hid.mk' hub
 have KF : Hid (∀ V : World, BAt V ah h0 → Calls Tryz.prog 52 #[.agg #[.slice ah h0.length ch]] V fun e w' => e = .returned (.int .i64 0) ∧ Below V.heap.size V w') := Hid.mk' (fun V hV => lexFault_any ah ch h0 V hV HG0.out)
 have KN : Hid (∀ V : World, BAt V ah h0 → Calls Tryz.prog 53 #[.agg #[.slice ah h0.length ch]] V fun e w' => ∃ g, e = .returned (.pointer (some ⟨g, 0, none⟩)) ∧ LXs V.heap.size g w' h0 [] ∧ Below V.heap.size V w') := Hid.mk' (fun V hV => newLexer_any ah ch h0 V hV (by omega))
 have HB := Hid.mk' N0
 have HD := Hid.mk' (hd.below N0)
 have HE := Hid.mk' (hE.keep N0)
 have HR := Hid.mk' RR
 clear N0 hd hE RR hh hgd hub
 generalize hW : (w.alloc (.cells #[.slice ah h0.length ch] 39)).alloc (.cells #[.int .i64 0, .slice none 0 0, .slice none 0 0] 41) = W at *
 have c6 : ¬ (240 : Int) < d.length := by omega
 go_enter Tryz.func15, Tryz.ntmps15
 go_wp2_with fail
 clear hW
 refine (KF.out _ HH0.out).mono ?_
 rintro e w1 ⟨rfl, hb1⟩
 have B1 := Hid.mk' (HB.out.trans (hb1.mono HB.out.size))
 have HH1 := Hid.mk' (HH0.out.below hb1)
 have R1 := Hid.mk' (rowB HR.out hb1)
 have D1 := Hid.mk' (HD.out.below hb1)
 have E1 := Hid.mk' (HE.out.keep (hb1.mono HB.out.size))
 have x1 := (hb1.cell (p := ⟨w.heap.size, 0, none⟩) (by have := HR.out.lt; show w.heap.size < _; omega)).trans x0
 clear hb1 x0 HR HD HE
 go_wp2_with fail
 refine (KN.out w1 HH1.out).mono ?_
 rintro e w2 ⟨g, rfl, hx, hb2⟩
 have B2 := Hid.mk' hb2
 have X2 := Hid.mk' hx
 have SB := B1.out.size
 clear hb2 x1 hx
 go_wp2
 go_loopw [24] (fun i wr => ∃ k : Nat, k ≤ d.length ∧ i = .int .i64 k ∧ LXs w1.heap.size g wr (allX [] h0 (d.take k)).2 (allX [] h0 (d.take k)).1 ∧ GoodH (allX [] h0 (d.take k)).2 ∧ Byt (allX [] h0 (d.take k)).2 ∧ (allX [] h0 (d.take k)).1.length ≤ 161 * k ∧ Below w1.heap.size w1 wr) (fun i _ => d.length - (intOf i).toNat)
 case atStart => exact ⟨0, Nat.zero_le _, rfl, X2.out, HG0.out, HU0.out, Nat.zero_le _, B2.out⟩
 case round =>
  obtain ⟨k, hk, rfl, hx, hg, hy, hn, hbl⟩ := hrel
  by_cases hlt : k < d.length
  ·have ci : (k : Int) < (d.length : Int) := by omega
   rcases D1.out.below hbl with hd | ⟨a, o, rfl, hbs, hc⟩
   ·exact absurd hlt (by rw [hd]; exact Nat.not_lt_zero _)
   obtain ⟨y0, y1⟩ := hu k hlt
   obtain ⟨y, hyy⟩ : ∃ y : Nat, d.getD k 0 = (y : Int) := ⟨(d.getD k 0).toNat, by omega⟩
   rw [hyy] at y1
   have hcell : wr.cell? ⟨a, o + k, none⟩ = some (.int .u8 y) := by rw [← hyy]; exact hc k hlt
   have ES : Hid (allX [] h0 (d.take (k + 1)) = ((allX [] h0 (d.take k)).1 ++ (feedX (allX [] h0 (d.take k)).2 y).1, (feedX (allX [] h0 (d.take k)).2 y).2)) := Hid.mk' (by
    rw [take_snoc_int hlt, allX_append, hyy]
    simp [allX])
   clear hc hyy y0
   generalize (allX [] h0 (d.take k)).1 = T at *
   generalize (allX [] h0 (d.take k)).2 = H at *
   have fl := feedX_len H y
   have gl := hg.len
   have G2 := Hid.mk' (feed_good y hg)
   have Y2 := Hid.mk' (feedX_byt (b := y) hy (by omega))
   have KS := Hid.mk' (lexState_any w1.heap.size g wr H T hx hy (by omega))
   have HY := Hid.mk' hy
   have BL := Hid.mk' hbl
   have KX : Hid (∀ w3 : World, LXs w1.heap.size g w3 H T → Below w1.heap.size wr w3 → Calls Tryz.prog (stN H) #[.pointer (some ⟨g, 0, none⟩), .int .u8 (y : Int)] w3 fun e w' => LxP w1.heap.size g (feedX H y).2 (T ++ (feedX H y).1) w3 e w') := Hid.mk' (fun w3 hx3 hb3 =>
    feed_any w1.heap.size w1.heap.size g tp pv y w3 H T hx3 ((E1.out.up SB (Nat.le_refl _)).keep (BL.out.trans hb3)) (Nat.le_refl _) HY.out (by omega) gl (by omega))
   clear hx hg hy hbl
   generalize (feedX H y).1 = FT at *
   generalize (feedX H y).2 = FH at *
   rcases stN_cases H with est | est | est | est
   all_goals
    rw [est] at KS KX
    clear est
    go_wp2_with fail
    refine KS.out.mono ?_
    rintro e w3 ⟨rfl, hx3, hb3⟩
    have KF2 := Hid.mk' (KX.out w3 hx3 hb3)
    have B3 := Hid.mk' (BL.out.trans hb3)
    clear hx3 hb3 KS KX
    go_wp2_with fail
    refine KF2.out.mono ?_
    rintro e w4 ⟨⟨v, rfl⟩, hx4, hb4⟩
    have X4 := Hid.mk' hx4
    have B4 := Hid.mk' (B3.out.trans hb4)
    clear hx4 hb4 KF2
    go_wp2
    go_roundw
    case rel => exact ⟨k + 1, by omega, by go_num, by rw [ES.out]; exact X4.out, by rw [ES.out]; exact G2.out, by rw [ES.out]; exact Y2.out, by rw [ES.out]; show (T ++ FT).length ≤ _; rw [List.length_append]; omega, B4.out⟩
    case measure => simp [intOf]; omega
  ·have ci : ¬ (k : Int) < (d.length : Int) := by omega
   have e : k = d.length := by omega
   subst e
   rw [List.take_length] at hx
   obtain ⟨hv, tv, us, rs, bl, bh, h⟩ := hx
   have KR := Hid.mk' (result_any w1.heap.size g wr hv tv _ _ us rs bl bh h)
   have BL := Hid.mk' hbl
   obtain ⟨ha, hc, rfl, _⟩ := own_src h.held
   obtain ⟨ta, tc, rfl, _⟩ := own_src h.row
   clear hg hy hn hbl h
   go_wp2_with fail
   refine KR.out.mono ?_
   rintro e w3 ⟨rfl, hx3, hb3⟩
   have B3 := Hid.mk' (BL.out.trans (hb3.mono BL.out.size))
   have R3 := rowB R1.out B3.out
   obtain ⟨y0, y1, y2, y3⟩ := cells3 R3
   have f0 := R3.frozen 0
   have f1 := R3.frozen 1
   have f2 := R3.frozen 2
   have X3 := Hid.mk' hx3
   clear hx3 hb3 KR R3
   generalize hT : (allX [] h0 d).1 = T at *
   generalize hH : (allX [] h0 d).2 = H at *
   have HT := Hid.mk' hT
   have HH := Hid.mk' hH
   clear hT hH
   go_wp2
   refine bodyPost_ret (v := .agg #[.int .i64 0, .slice ta T.length tc, .slice ha H.length hc]) (by simp [results, Tryz.results15, go_sem, *]) rfl ?_
   have b1s := R1.out.lt
   refine ⟨_, _, us, rs, bl, bh, w1.heap.size, g, rfl, SB, ?_, three (B1.out.trans (B3.out.mono SB)) (by omega)⟩
   rw [HT.out, HH.out]
   exact X3.out.keep (by simp [World.setCell]) (fun k h1 h2 => by
    rw [Deep.blk_setCell_other _ _ _ _ (by show k ≠ w.heap.size + 1; omega), Deep.blk_setCell_other _ _ _ _ (by show k ≠ w.heap.size + 1; omega), Deep.blk_setCell_other _ _ _ _ (by show k ≠ w.heap.size + 1; omega)])
def FbP (H : List Int) (w : World) (e : Ending) (w' : World) : Prop :=
 ∃ ta tn tc ha hc, e = .returned (.agg #[.int .i64 0, .slice ta tn tc, .slice ha H.length hc]) ∧ BAt w' ha H ∧ (∀ b o, ha = some ⟨b, o, none⟩ → w.heap.size ≤ b) ∧ Below w.heap.size w w'
theorem FfP.fb {h0 d : List Int} {w : World} {e : Ending} {w' : World} (h : FfP h0 d w e w') : FbP (allX [] h0 d).2 w e w' := by
 obtain ⟨hv, tv, us, rs, bl, bh, lo, g, rfl, hlo, hx, hb⟩ := h
 obtain ⟨ta, tc, rfl, _⟩ := own_src hx.row
 obtain ⟨o, ho⟩ := OB.of_own hx.held
 obtain ⟨a, c, rfl, hba⟩ := o.len
 exact ⟨ta, _, tc, a, c, rfl, hba, fun b o e => by subst e; have := ho b rfl; omega, hb⟩
theorem feedByte_any (tp : TypeId) (pv : Value) (h0 : List Int) (ah : Option Addr) (ch : Nat) (b : Nat) (w : World) (hE : Env w.heap.size tp pv w) (hh : BAt w ah h0) (hgd : GoodH h0) (hub : Byt h0) (hl : b ≤ 255) :
  Calls Tryz.prog 109 #[.agg #[.slice ah h0.length ch], .int .i64 (b : Int)] w fun e w' => FbP (feedX h0 b).2 w e w' := by
 obtain ⟨N0, x0, RR⟩ := boxesF w (.slice ah h0.length ch)
 have hgl := hgd.len
 have HH0 := Hid.mk' (hh.below N0)
 have HG0 := Hid.mk' hgd
 have HU0 := Hid.mk' hub
 have KF : Hid (∀ V : World, BAt V ah h0 → Calls Tryz.prog 52 #[.agg #[.slice ah h0.length ch]] V fun e w' => e = .returned (.int .i64 0) ∧ Below V.heap.size V w') := Hid.mk' (fun V hV => lexFault_any ah ch h0 V hV HG0.out)
 have KN : Hid (∀ V : World, BAt V ah h0 → Calls Tryz.prog 53 #[.agg #[.slice ah h0.length ch]] V fun e w' => ∃ g, e = .returned (.pointer (some ⟨g, 0, none⟩)) ∧ LXs V.heap.size g w' h0 [] ∧ Below V.heap.size V w') := Hid.mk' (fun V hV => newLexer_any ah ch h0 V hV (by omega))
 have HB := Hid.mk' N0
 have HE := Hid.mk' (hE.keep N0)
 have HR := Hid.mk' RR
 clear N0 hE RR hh hgd hub
 generalize hW : (w.alloc (.cells #[.slice ah h0.length ch] 39)).alloc (.cells #[.int .i64 0, .slice none 0 0, .slice none 0 0] 41) = W at *
 have c6 : ¬ ((b : Int) < 0) := by omega
 have c7 : ¬ ((b : Int) > 255) := by omega
 have cw : IntKind.u8.wrap (b : Int) = (b : Int) := by rw [IntKind.wrap_u8]; omega
 go_enter Tryz.func109, Tryz.ntmps109
 go_wp2_with fail
 clear hW
 refine (KF.out _ HH0.out).mono ?_
 rintro e w1 ⟨rfl, hb1⟩
 have B1 := Hid.mk' (HB.out.trans (hb1.mono HB.out.size))
 have HH1 := Hid.mk' (HH0.out.below hb1)
 have R1 := Hid.mk' (rowB HR.out hb1)
 have E1 := Hid.mk' (HE.out.keep (hb1.mono HB.out.size))
 have x1 := (hb1.cell (p := ⟨w.heap.size, 0, none⟩) (by have := HR.out.lt; show w.heap.size < _; omega)).trans x0
 clear hb1 x0 HR HE
 go_wp2_with (first | go_big_skip | fail)
 refine (KN.out w1 HH1.out).mono ?_
 rintro e w2 ⟨g, rfl, hx, hb2⟩
 have B2 := Hid.mk' hb2
 have SB := B1.out.size
 have fl := feedX_len h0 b
 have KS := Hid.mk' (lexState_any w1.heap.size g w2 h0 [] hx HU0.out (by omega))
 have KX : Hid (∀ w3 : World, LXs w1.heap.size g w3 h0 [] → Below w1.heap.size w2 w3 → Calls Tryz.prog (stN h0) #[.pointer (some ⟨g, 0, none⟩), .int .u8 (b : Int)] w3 fun e w' => LxP w1.heap.size g (feedX h0 b).2 ([] ++ (feedX h0 b).1) w3 e w') := Hid.mk' (fun w3 hx3 hb3 =>
  feed_any w1.heap.size w1.heap.size g tp pv b w3 h0 [] hx3 ((E1.out.up SB (Nat.le_refl _)).keep (B2.out.trans hb3)) (Nat.le_refl _) HU0.out (by omega) hgl (Nat.zero_le _))
 clear hb2 x1 hx
 generalize (feedX h0 b).1 = FT at *
 generalize hF : (feedX h0 b).2 = FH at *
 have HF := Hid.mk' hF
 clear hF
 rcases stN_cases h0 with est | est | est | est
 all_goals
  rw [est] at KS KX
  clear est
  go_wp2_with fail
  refine KS.out.mono ?_
  rintro e w3 ⟨rfl, hx3, hb3⟩
  have KF2 := Hid.mk' (KX.out w3 hx3 hb3)
  have B3 := Hid.mk' (B2.out.trans hb3)
  clear hx3 hb3 KS KX
  go_wp2_with fail
  refine KF2.out.mono ?_
  rintro e w4 ⟨⟨v, rfl⟩, hx4, hb4⟩
  have B4 := Hid.mk' (B3.out.trans hb4)
  obtain ⟨hv, tv, us, rs, bl, bh, h⟩ := hx4
  have KR := Hid.mk' (result_any w1.heap.size g w4 hv tv _ _ us rs bl bh h)
  obtain ⟨o4, _⟩ := OB.of_own h.held
  obtain ⟨ha, hc, rfl, _⟩ := o4.len
  obtain ⟨ta, tc, rfl, _⟩ := own_src h.row
  clear h hb4 KF2 o4
  go_wp2_with fail
  refine KR.out.mono ?_
  rintro e w5 ⟨rfl, hx5, hb5⟩
  have B5 := Hid.mk' (B4.out.trans (hb5.mono B4.out.size))
  have R5 := rowB R1.out B5.out
  obtain ⟨y0, y1, y2, y3⟩ := cells3 R5
  have f0 := R5.frozen 0
  have f1 := R5.frozen 1
  have f2 := R5.frozen 2
  obtain ⟨o5, l5⟩ := OB.of_own hx5.held
  have O5 := Hid.mk' o5
  have L5 := Hid.mk' l5
  clear hx5 hb5 KR R5 o5 l5
  generalize ([] ++ FT).length = TL at *
  go_wp2
  refine bodyPost_ret (v := .agg #[.int .i64 0, .slice ta TL tc, .slice ha FH.length hc]) (by simp [results, Tryz.results109, go_sem, *]) rfl ?_
  have b1s := R1.out.lt
  have OK : OB (((w5.setCell ⟨w.heap.size + 1, 0, none⟩ (.int .i64 0)).setCell ⟨w.heap.size + 1, 1, none⟩ (.slice ta TL tc)).setCell ⟨w.heap.size + 1, 2, none⟩ (.slice ha FH.length hc)) (.slice ha FH.length hc) FH := O5.out.keep (fun k hk _ => by
   have := L5.out k hk
   rw [Deep.blk_setCell_other _ _ _ _ (by show k ≠ w.heap.size + 1; omega), Deep.blk_setCell_other _ _ _ _ (by show k ≠ w.heap.size + 1; omega), Deep.blk_setCell_other _ _ _ _ (by show k ≠ w.heap.size + 1; omega)])
  obtain ⟨a9, c9, e9, h9⟩ := OK.len
  cases e9
  rw [HF.out]
  exact ⟨ta, TL, tc, ha, hc, rfl, h9, fun b o e => by subst e; have := L5.out b rfl; have := R1.out.lt; omega, three (B1.out.trans (B5.out.mono SB)) (by omega)⟩

end Go.Proofs.YtlimgcmhidooaaaGreatDoor
