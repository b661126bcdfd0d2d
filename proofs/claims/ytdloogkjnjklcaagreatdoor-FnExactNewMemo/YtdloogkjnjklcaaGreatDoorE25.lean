/- Walks: lists of tokens that are the same are told so; the model's SameTokens. -/
import Derived.Test.YtdloogkjnjklcaaGreatDoorE18
import Derived.BigGuard
import Derived.Laws.BytesString
import Derived.Laws.IdiomStrings
import Derived.Test.YtdloogkjnjklcaaGreatDoorE24
import Derived.Test.YtdloogkjnjklcaaGreatDoorE14
import Derived.Test.YtdloogkjnjklcaaGreatDoorE23
set_option linter.unusedVariables false
set_option linter.unusedSimpArgs false
namespace Go.Proofs.YtdloogkjnjklcaaGreatDoor
open Go.RowKit

set_option maxHeartbeats 1600000 in
theorem eqTokenS_any (a b : Option Addr) (c d : Nat) (l : List TK) (w : World) (ha : TsAt w a l) (hb : TsAt w b l) (hl : (l.length : Int) + tssz l ≤ 1048576) :
    Calls Tryz.prog 43 #[.slice a l.length c, .slice b l.length d] w fun e w' => e = .returned (.bool true) ∧ Below w.heap.size w w' := by
  have HA := Hid.mk' ha
  have HB := Hid.mk' hb
  clear ha hb
  go_enter Tryz.func43, Tryz.ntmps43
  go_wp2
  go_loopw [5] (fun i wr => ∃ k : Nat, k ≤ l.length ∧ i = .int .i64 k ∧ Below w.heap.size w wr) (fun i _ => l.length - (intOf i).toNat)
  case atStart => exact ⟨0, Nat.zero_le _, rfl, Below.refl _ _⟩
  case round =>
    obtain ⟨k, hk, rfl, hbl⟩ := hrel
    have R2 := Hid.mk' hbl
    by_cases hlt : k < l.length
    · have ci : (k : Int) < (l.length : Int) := by omega
      rcases HA.out.below hbl with ha | ⟨b1, o1, rfl, s1, hc1⟩
      · exact absurd hlt (by rw [ha]; exact Nat.not_lt_zero _)
      rcases HB.out.below hbl with hb | ⟨b2, o2, rfl, s2, hc2⟩
      · exact absurd hlt (by rw [hb]; exact Nat.not_lt_zero _)
      obtain ⟨x1, x2, x3, ⟨p1, d1, x4, x5⟩, x6⟩ := hc1 k hlt
      obtain ⟨y1, y2, y3, ⟨p2_, d2, y4, y5⟩, y6⟩ := hc2 k hlt
      have st := tssz_take l k hlt
      have sl := tssz_le l (k + 1)
      unfold tsz at st
      have KE := Hid.mk' (eqToken_any (tkK l k) p1 p2_ d1 d2 wr.drew (x5.below (Below.refl _ _).drew) (y5.below (Below.refl _ _).drew) (by omega))
      clear hbl hc1 hc2 x5 y5 st sl
      go_wp2
      go_region_held3 (fun w' => w'.cell? ⟨b1, o1 + k * 5, none⟩ = some (.int .i64 (tkK l k).kd) ∧ w'.cell? ⟨b1, o1 + k * 5 + 1, none⟩ = some (.int .i64 (tkK l k).by_) ∧ w'.cell? ⟨b1, o1 + k * 5 + 2, none⟩ = some (.string (tkK l k).nm) ∧ w'.cell? ⟨b1, o1 + k * 5 + 3, none⟩ = some (.slice p1 (tkK l k).at_.length d1) ∧ w'.cell? ⟨b1, o1 + k * 5 + 4, none⟩ = some (.bool (tkK l k).sh) ∧ w'.cell? ⟨b2, o2 + k * 5, none⟩ = some (.int .i64 (tkK l k).kd) ∧ w'.cell? ⟨b2, o2 + k * 5 + 1, none⟩ = some (.int .i64 (tkK l k).by_) ∧ w'.cell? ⟨b2, o2 + k * 5 + 2, none⟩ = some (.string (tkK l k).nm) ∧ w'.cell? ⟨b2, o2 + k * 5 + 3, none⟩ = some (.slice p2_ (tkK l k).at_.length d2) ∧ w'.cell? ⟨b2, o2 + k * 5 + 4, none⟩ = some (.bool (tkK l k).sh)) (simp [*])
        ((go_at_call 70; refine KE.out.mono ?_; rintro e w1 ⟨rfl, hb1⟩; replace hb1 := undrew hb1; obtain ⟨hx1, hx2⟩ := bcell hb1))
      go_wp2
      go_roundw
      case rel => exact ⟨k + 1, by omega, by go_num, R2.out.trans (hb1.mono R2.out.size)⟩
      case measure => simp [intOf]; omega
    · have ci : ¬ (k : Int) < (l.length : Int) := by omega
      go_wp2
      go_ret
      exact ⟨rfl, R2.out⟩

end Go.Proofs.YtdloogkjnjklcaaGreatDoor

namespace Go.Proofs.YtdloogkjnjklcaaGreatDoor
open Go.RowKit

set_option maxRecDepth 100000 in
set_option maxHeartbeats 6400000 in
theorem heldTokenS_is (z : Nat) (a : Option Addr) (c : Nat) (l : List TK) (w : World) (ha : TsAt w a (mkT z l)) (hz : 0 < z) (hz2 : (z : Int) ≤ 10000000) (hl : (l.length : Int) + tssz l ≤ 1048576) :
    Calls Tryz.prog 53 #[.slice a l.length c, .int .i64 (z : Int)] w fun e w' => e = .returned (.int .i64 ((z + ctN l : Nat) : Int)) ∧ Below w.heap.size w w' := by
  have HA := Hid.mk' ha
  clear ha
  go_enter Tryz.func53, Tryz.ntmps53
  go_wp2
  go_loopw [1, 5] (fun x i wr => ∃ k : Nat, k ≤ l.length ∧ i = .int .i64 k ∧ x = .int .i64 ((z + ctN (l.take k) : Nat) : Int) ∧ Below w.heap.size w wr) (fun _ i _ => l.length - (intOf i).toNat)
  case atStart => exact ⟨0, Nat.zero_le _, rfl, by simp [ctN], Below.refl _ _⟩
  case round =>
    obtain ⟨k, hk, rfl, rfl, hbl⟩ := hrel
    have HB := Hid.mk' hbl
    by_cases hlt : k < l.length
    · have ci : (k : Int) < (l.length : Int) := by omega
      have st := ctN_take l k hlt
      have sl := ctN_le l (k + 1)
      have vz := vsz_asz (tkK l k).at_
      have sz1 := tssz_at' hlt
      unfold tsz at sz1
      unfold ct1 at st
      rcases HA.out.below hbl with h0 | ⟨b1, o1, rfl, s1, hc1⟩
      · have := mkT_len z l; rw [h0] at this; simp at this; omega
      obtain ⟨h1, h2, h3, ⟨p1, d1, h4, h5⟩, h6⟩ := hc1 k (by rw [mkT_len]; exact hlt)
      rw [mkT_get hlt] at h1 h2 h3 h4 h5 h6
      obtain ⟨q, hq⟩ : ∃ q : Nat, z + ctN (l.take k) = q := ⟨_, rfl⟩
      have hq1 : z + ctN (l.take (k + 1)) = q + 1 + 1 + 1 + (tkK l k).at_.length + vsz (tkK l k).at_ + 1 := by omega
      have hq2 : q + 1 + 1 + 1 + (tkK l k).at_.length + vsz (tkK l k).at_ + 1 ≤ 20000000 := by omega
      rw [hq] at h1 h2 h3 h4 h5 h6 ⊢
      replace h1 : wr.cell? ⟨b1, o1 + k * 5, none⟩ = some (.int .i64 (q : Int)) := h1
      replace h2 : wr.cell? ⟨b1, o1 + k * 5 + 1, none⟩ = some (.int .i64 ((q : Int) + 1)) := h2
      replace h3 : wr.cell? ⟨b1, o1 + k * 5 + 2, none⟩ = some (.string (mtx (q + 1 + 1))) := h3
      replace h4 : wr.cell? ⟨b1, o1 + k * 5 + 3, none⟩ = some (.slice p1 (tkK l k).at_.length d1) := by
        have e : (mk1T q (tkK l k)).at_.length = (tkK l k).at_.length := mkA_len _ _
        rw [e] at h4; exact h4
      replace h5 : AAt wr p1 (mkA (q + 1 + 1 + 1) (tkK l k).at_) := h5
      obtain ⟨q2, hq3⟩ : ∃ q2 : Nat, q + 1 + 1 + 1 + (tkK l k).at_.length + vsz (tkK l k).at_ = q2 := ⟨_, rfl⟩
      replace h6 : wr.cell? ⟨b1, o1 + k * 5 + 4, none⟩ = some (.bool ((q2 : Int) % 3 == 0)) := by rw [h6, ← hq3]; rfl
      have Q1 := Hid.mk' hq1
      have H5 := Hid.mk' h5
      have KT := Hid.mk' (fun V => markText_is (q + 1 + 1) V (by omega) (by omega))
      have ez : ((q + 1 + 1 + 1 : Nat) : Int) + ((tkK l k).at_.length : Int) + (vsz (tkK l k).at_ : Int) = (q2 : Int) := by omega
      have EZ : Hid ((q2 : Int) + 1 = ((z + ctN (l.take (k + 1)) : Nat) : Int)) := Hid.mk' (by rw [Q1.out]; omega)
      have EY := Hid.mk' ez
      have q2b : q2 ≤ 20000000 := by omega
      have LB : Hid ((((tkK l k).at_.length : Nat) : Int) + asz (tkK l k).at_ ≤ 2000000) := Hid.mk' (by omega)
      clear st sl hq hq1 hc1 hbl h5 ez hq3 sz1 vz
      go_wp2_with fail
      go_region_held3 (fun w' => w'.cell? ⟨b1, o1 + k * 5 + 2, none⟩ = some (.string (mtx (q + 1 + 1)))) (simp [*])
        ((go_at_call 72; refine (KT.out _).mono ?_; rintro e w1 ⟨rfl, hb1⟩; replace hb1 := undrew hb1; obtain ⟨hx1, hx2⟩ := bcell hb1))
      have B1 := Hid.mk' (HB.out.trans (hb1.mono HB.out.size))
      have g4 : w1.cell? ⟨b1, o1 + k * 5 + 3, none⟩ = some (.slice p1 (tkK l k).at_.length d1) := (hx1 _ _ s1).trans h4
      have g6 : w1.cell? ⟨b1, o1 + k * 5 + 4, none⟩ = some (.bool ((q2 : Int) % 3 == 0)) := (hx1 _ _ s1).trans h6
      have s2 : b1 < w1.heap.size := Nat.lt_of_lt_of_le s1 hb1.size
      have KB := Hid.mk' (heldAttrS_is (q + 1 + 1 + 1) p1 d1 (tkK l k).at_ w1 (H5.out.below hb1) (by omega) (by omega) LB.out)
      clear hb1 hx1 hx2 KT h1 h2 h3 h4 h6
      go_wp2_with fail
      refine KB.out.mono ?_
      rintro e w2 ⟨rfl, hb2⟩
      have B2 := Hid.mk' (B1.out.trans (hb2.mono B1.out.size))
      have k6 : w2.cell? ⟨b1, o1 + k * 5 + 4, none⟩ = some (.bool ((q2 : Int) % 3 == 0)) := (hb2.cell s2).trans g6
      rw [EY.out]
      have zz : ¬ ((q2 : Int) < 0) := by omega
      clear hb2 KB g4 g6
      go_wp2
      go_roundw
      case rel => exact ⟨k + 1, by omega, by go_num, by rw [← EZ.out], B2.out⟩
      case measure => simp [intOf]; omega
    · have ci : ¬ (k : Int) < (l.length : Int) := by omega
      have e : k = l.length := by omega
      subst e
      rw [List.take_length]
      go_wp2
      go_ret
      exact ⟨rfl, HB.out⟩

end Go.Proofs.YtdloogkjnjklcaaGreatDoor

namespace Go.Proofs.YtdloogkjnjklcaaGreatDoor
open Go.RowKit

structure CK where
  pl : Int
  ct : Int
  hd : List Int

def ckK (l : List CK) (k : Nat) : CK := l.getD k ⟨0, 0, []⟩

def CsAt (w : World) (a : Option Addr) (l : List CK) : Prop :=
  l = [] ∨ ∃ b o, a = some ⟨b, o, none⟩ ∧ b < w.heap.size ∧ ∀ k, k < l.length → w.cell? ⟨b, o + k * 3, none⟩ = some (.int .i64 (ckK l k).pl) ∧ w.cell? ⟨b, o + k * 3 + 1, none⟩ = some (.int .i64 (ckK l k).ct) ∧ ∃ p c, w.cell? ⟨b, o + k * 3 + 2, none⟩ = some (.slice p (ckK l k).hd.length c) ∧ BAt w p (ckK l k).hd

theorem CsAt.below {w w' : World} {a : Option Addr} {l : List CK} (h : CsAt w a l) (hb : Below w.heap.size w w') : CsAt w' a l := by
  rcases h with h | ⟨b, o, e, hs, hc⟩
  · exact .inl h
  · refine .inr ⟨b, o, e, Nat.lt_of_lt_of_le hs hb.size, fun k hk => ?_⟩
    obtain ⟨h1, h2, p, c, h3, h4⟩ := hc k hk
    exact ⟨(hb.cell hs).trans h1, (hb.cell hs).trans h2, p, c, (hb.cell hs).trans h3, h4.below hb⟩

def csz : List CK → Nat
  | [] => 0
  | x :: r => x.hd.length + csz r

theorem csz_take (l : List CK) : ∀ k, k < l.length → csz (l.take (k + 1)) = csz (l.take k) + (ckK l k).hd.length := by
  induction l with
  | nil => intro k h; exact absurd h (Nat.not_lt_zero _)
  | cons x r ih =>
    intro k hk
    cases k with
    | zero => simp [csz, ckK]
    | succ k =>
      have := ih k (by simpa using hk)
      simp only [List.take_succ_cons, csz]
      rw [this]
      have e : ckK (x :: r) (k + 1) = ckK r k := by simp [ckK]
      rw [e]; omega

theorem csz_le (l : List CK) (k : Nat) : csz (l.take k) ≤ csz l := by
  induction l generalizing k with
  | nil => simp [csz]
  | cons x r ih =>
    cases k with
    | zero => simp [csz]
    | succ k => simp only [List.take_succ_cons, csz]; have := ih k; omega

theorem Tryz.info57 : (Tryz.prog.info? 57).map (fun i => (i.zero, i.size, i.bytes)) = some (some (.agg #[.int .i64 0, .int .i64 0, .slice none 0 0]), 3, 40) := by kernel_rfl

theorem make_checks {P : Program} (t e : TypeId) (ht : P.underlying t = some (.slice e)) (hinfo : (P.info? e).map (fun i => (i.zero, i.size, i.bytes)) = some (some (.agg #[.int .i64 0, .int .i64 0, .slice none 0 0]), 3, 40))
    (n : Nat) (hn : (n : Int) ≤ 1048576) (w : World) :
    (Instr.makeSlice t (.int .i64 (n : Int)) (.int .i64 (n : Int))).run P w = .ok (.slice (some ⟨w.heap.size, 0, none⟩) n n) (w.alloc (.cells (madeCells #[.int .i64 0, .int .i64 0, .slice none 0 0] (n * 3)) e)) := by
  obtain ⟨i, hi, hzz⟩ := Option.map_eq_some_iff.1 hinfo
  simp only [Prod.mk.injEq] at hzz
  obtain ⟨hz, hs, hb⟩ := hzz
  have hr := run_make (P := P) w t e i _ ht hi hz .i64 .i64 n n (by omega) (Int.le_refl _) (by rw [hb]; omega) (by omega)
  simp only [Int.toNat_natCast, hs] at hr
  exact hr

set_option maxHeartbeats 400000 in
theorem eqCheck_any (x y : Int) (a b : Option Addr) (c d : Nat) (l : List Int) (w : World) (ha : BAt w a l) (hb : BAt w b l) (hl : (l.length : Int) ≤ 1048576) :
    Calls Tryz.prog 71 #[.agg #[.int .i64 x, .int .i64 y, .slice a l.length c], .agg #[.int .i64 x, .int .i64 y, .slice b l.length d]] w fun e w' => e = .returned (.bool true) ∧ Below w.heap.size w w' := by
  have B0 := ((Below.refl w.heap.size w).alloc (Nat.le_refl _) (.cells #[.int .i64 x, .int .i64 y, .slice a l.length c] 57)).alloc (by simp) (.cells #[.int .i64 x, .int .i64 y, .slice b l.length d] 57)
  have KB := Hid.mk' (eqByteS_any a b c d l _ (ha.below B0) (hb.below B0) hl)
  have HB := Hid.mk' B0
  clear ha hb B0
  go_enter Tryz.func71, Tryz.ntmps71
  go_wp2_with fail
  refine KB.out.mono ?_
  rintro e w1 ⟨rfl, hb⟩
  have HB := Hid.mk' (HB.out.trans (hb.mono HB.out.size))
  clear hb KB
  go_wp2
  go_ret
  exact ⟨rfl, HB.out⟩

set_option maxHeartbeats 1600000 in
theorem eqCheckS_any (a b : Option Addr) (c d : Nat) (l : List CK) (w : World) (ha : CsAt w a l) (hb : CsAt w b l) (hl : (l.length : Int) + csz l ≤ 1048576) :
    Calls Tryz.prog 44 #[.slice a l.length c, .slice b l.length d] w fun e w' => e = .returned (.bool true) ∧ Below w.heap.size w w' := by
  have HA := Hid.mk' ha
  have HB := Hid.mk' hb
  clear ha hb
  go_enter Tryz.func44, Tryz.ntmps44
  go_wp2
  go_loopw [5] (fun i wr => ∃ k : Nat, k ≤ l.length ∧ i = .int .i64 k ∧ Below w.heap.size w wr) (fun i _ => l.length - (intOf i).toNat)
  case atStart => exact ⟨0, Nat.zero_le _, rfl, Below.refl _ _⟩
  case round =>
    obtain ⟨k, hk, rfl, hbl⟩ := hrel
    have R2 := Hid.mk' hbl
    by_cases hlt : k < l.length
    · have ci : (k : Int) < (l.length : Int) := by omega
      rcases HA.out.below hbl with ha | ⟨b1, o1, rfl, s1, hc1⟩
      · exact absurd hlt (by rw [ha]; exact Nat.not_lt_zero _)
      rcases HB.out.below hbl with hb | ⟨b2, o2, rfl, s2, hc2⟩
      · exact absurd hlt (by rw [hb]; exact Nat.not_lt_zero _)
      obtain ⟨h1, h7, p1, d1, h2, h3⟩ := hc1 k hlt
      obtain ⟨h4, h8, p2_, d2, h5, h6⟩ := hc2 k hlt
      have st := csz_take l k hlt
      have sl := csz_le l (k + 1)
      have KE : Hid (Calls Tryz.prog 71 #[.agg #[.int .i64 (ckK l k).pl, .int .i64 (ckK l k).ct, .slice p1 (ckK l k).hd.length d1], .agg #[.int .i64 (ckK l k).pl, .int .i64 (ckK l k).ct, .slice p2_ (ckK l k).hd.length d2]] wr.drew fun e w' => e = .returned (.bool true) ∧ Below wr.drew.heap.size wr.drew w') := eqCheck_any _ _ _ _ _ _ _ _ (h3.below (Below.refl _ _).drew) (h6.below (Below.refl _ _).drew) (by omega)
      clear hbl hc1 hc2 h3 h6 st sl
      go_wp2
      go_region_held3 (fun w' => w'.cell? ⟨b1, o1 + k * 3, none⟩ = some (.int .i64 (ckK l k).pl) ∧ w'.cell? ⟨b1, o1 + k * 3 + 1, none⟩ = some (.int .i64 (ckK l k).ct) ∧ w'.cell? ⟨b1, o1 + k * 3 + 2, none⟩ = some (.slice p1 (ckK l k).hd.length d1) ∧ w'.cell? ⟨b2, o2 + k * 3, none⟩ = some (.int .i64 (ckK l k).pl) ∧ w'.cell? ⟨b2, o2 + k * 3 + 1, none⟩ = some (.int .i64 (ckK l k).ct) ∧ w'.cell? ⟨b2, o2 + k * 3 + 2, none⟩ = some (.slice p2_ (ckK l k).hd.length d2)) (simp [*])
        ((go_at_call 71; refine KE.out.mono ?_; rintro e w1 ⟨rfl, hb1⟩; replace hb1 := undrew hb1; obtain ⟨hx1, hx2⟩ := bcell hb1))
      go_wp2
      go_roundw
      case rel => exact ⟨k + 1, by omega, by go_num, R2.out.trans (hb1.mono R2.out.size)⟩
      case measure => simp [intOf]; omega
    · have ci : ¬ (k : Int) < (l.length : Int) := by omega
      go_wp2
      go_ret
      exact ⟨rfl, R2.out⟩

end Go.Proofs.YtdloogkjnjklcaaGreatDoor

namespace Go.Proofs.YtdloogkjnjklcaaGreatDoor
open Go.RowKit

structure ME where
  dt : List Int
  st : Int
  tk : List TK
  hd : List Int
  cs : List CK

def MAt (w : World) (a t u c : Option Addr) (m : ME) : Prop := BAt w a m.dt ∧ TsAt w t m.tk ∧ BAt w u m.hd ∧ CsAt w c m.cs

theorem MAt.below {w w' : World} {a t u c : Option Addr} {m : ME} (x : MAt w a t u c m) (hb : Below w.heap.size w w') : MAt w' a t u c m :=
  ⟨x.1.below hb, x.2.1.below hb, x.2.2.1.below hb, x.2.2.2.below hb⟩

def msz (m : ME) : Nat := m.dt.length + m.tk.length + tssz m.tk + m.hd.length + m.cs.length + csz m.cs

end Go.Proofs.YtdloogkjnjklcaaGreatDoor

namespace Go.Proofs.YtdloogkjnjklcaaGreatDoor
open Go.RowKit

end Go.Proofs.YtdloogkjnjklcaaGreatDoor

namespace Go.Proofs.YtdloogkjnjklcaaGreatDoor
open Go.RowKit

end Go.Proofs.YtdloogkjnjklcaaGreatDoor

namespace Go.Proofs.YtdloogkjnjklcaaGreatDoor
open Go.RowKit

end Go.Proofs.YtdloogkjnjklcaaGreatDoor

namespace Go.Proofs.YtdloogkjnjklcaaGreatDoor
open Go.RowKit

end Go.Proofs.YtdloogkjnjklcaaGreatDoor

namespace Go.Proofs.YtdloogkjnjklcaaGreatDoor
open Go.RowKit

end Go.Proofs.YtdloogkjnjklcaaGreatDoor

namespace Go.Proofs.YtdloogkjnjklcaaGreatDoor
open Go.RowKit

end Go.Proofs.YtdloogkjnjklcaaGreatDoor

namespace Go.Proofs.YtdloogkjnjklcaaGreatDoor
open Go.RowKit

theorem two5 (w : World) (T : TypeId) (x0 x1 x2 x3 x4 y0 y1 y2 y3 y4 : Value) :
    Below w.heap.size w ((w.alloc (.cells #[x0, x1, x2, x3, x4] T)).alloc (.cells #[y0, y1, y2, y3, y4] T)) ∧ ((w.alloc (.cells #[x0, x1, x2, x3, x4] T)).alloc (.cells #[y0, y1, y2, y3, y4] T)).rowIs w.heap.size T 5 (r5 x0 x1 x2 x3 x4) ∧ ((w.alloc (.cells #[x0, x1, x2, x3, x4] T)).alloc (.cells #[y0, y1, y2, y3, y4] T)).rowIs (w.heap.size + 1) T 5 (r5 y0 y1 y2 y3 y4) := by
  refine ⟨((Below.refl w.heap.size w).alloc (Nat.le_refl _) _).alloc (by simp) _, (row5 w T x0 x1 x2 x3 x4).alloc _, ?_⟩
  have := row5 (w.alloc (.cells #[x0, x1, x2, x3, x4] T)) T y0 y1 y2 y3 y4
  rw [show (w.alloc (.cells #[x0, x1, x2, x3, x4] T)).heap.size = w.heap.size + 1 from by simp] at this
  exact this

structure M2 (w : World) (m n : ME) (a t u c a2 t2 u2 c2 : Option Addr) (ca ct cu cc da dt du dc : Nat) (wi : World) : Prop where
  bl : Below w.heap.size w wi
  r1 : wi.rowIs w.heap.size 26 5 (r5 (.slice a m.dt.length ca) (.int .i64 m.st) (.slice t m.tk.length ct) (.slice u m.hd.length cu) (.slice c m.cs.length cc))
  r2 : wi.rowIs (w.heap.size + 1) 26 5 (r5 (.slice a2 n.dt.length da) (.int .i64 n.st) (.slice t2 n.tk.length dt) (.slice u2 n.hd.length du) (.slice c2 n.cs.length dc))
  m1 : MAt wi a t u c m
  m2 : MAt wi a2 t2 u2 c2 n

theorem M2.below {w : World} {m n : ME} {a t u c a2 t2 u2 c2 : Option Addr} {ca ct cu cc da dt du dc : Nat} {wi wj : World} (x : M2 w m n a t u c a2 t2 u2 c2 ca ct cu cc da dt du dc wi) (hb : Below wi.heap.size wi wj) : M2 w m n a t u c a2 t2 u2 c2 ca ct cu cc da dt du dc wj :=
  ⟨x.bl.trans (hb.mono x.bl.size), rowB x.r1 hb, rowB x.r2 hb, x.m1.below hb, x.m2.below hb⟩

theorem M2.start {w : World} {m n : ME} {a t u c a2 t2 u2 c2 : Option Addr} {ca ct cu cc da dt du dc : Nat} (h1 : MAt w a t u c m) (h2 : MAt w a2 t2 u2 c2 n) : M2 w m n a t u c a2 t2 u2 c2 ca ct cu cc da dt du dc ((w.alloc (.cells #[.slice a m.dt.length ca, .int .i64 m.st, .slice t m.tk.length ct, .slice u m.hd.length cu, .slice c m.cs.length cc] 26)).alloc (.cells #[.slice a2 n.dt.length da, .int .i64 n.st, .slice t2 n.tk.length dt, .slice u2 n.hd.length du, .slice c2 n.cs.length dc] 26)) := by
  obtain ⟨B0, R1, R2⟩ := two5 w 26 (.slice a m.dt.length ca) (.int .i64 m.st) (.slice t m.tk.length ct) (.slice u m.hd.length cu) (.slice c m.cs.length cc) (.slice a2 n.dt.length da) (.int .i64 n.st) (.slice t2 n.tk.length dt) (.slice u2 n.hd.length du) (.slice c2 n.cs.length dc)
  exact ⟨B0, R1, R2, h1.below B0, h2.below B0⟩

set_option maxHeartbeats 3200000 in
theorem eqMemo_any (m : ME) (a t u c a2 t2 u2 c2 : Option Addr) (ca ct cu cc da dt du dc : Nat) (w : World) (h1 : MAt w a t u c m) (h2 : MAt w a2 t2 u2 c2 m) (hl : (msz m : Int) ≤ 1048576) :
    Calls Tryz.prog 19 #[.agg #[.slice a m.dt.length ca, .int .i64 m.st, .slice t m.tk.length ct, .slice u m.hd.length cu, .slice c m.cs.length cc], .agg #[.slice a2 m.dt.length da, .int .i64 m.st, .slice t2 m.tk.length dt, .slice u2 m.hd.length du, .slice c2 m.cs.length dc]] w fun e w' => e = .returned (.bool true) ∧ Below w.heap.size w w' := by
  have MS : (msz m : Int) = m.dt.length + m.tk.length + tssz m.tk + m.hd.length + m.cs.length + csz m.cs := by unfold msz; omega
  have s1 : (m.dt.length : Int) ≤ 1048576 := by omega
  have s2 : (m.tk.length : Int) + tssz m.tk ≤ 1048576 := by omega
  have s3 : (m.hd.length : Int) ≤ 1048576 := by omega
  have s4 : (m.cs.length : Int) + csz m.cs ≤ 1048576 := by omega
  have HS := Hid.mk' (M2.start (ca := ca) (ct := ct) (cu := cu) (cc := cc) (da := da) (dt := dt) (du := du) (dc := dc) h1 h2)
  clear MS hl h1 h2
  generalize hW : (w.alloc (.cells #[.slice a m.dt.length ca, .int .i64 m.st, .slice t m.tk.length ct, .slice u m.hd.length cu, .slice c m.cs.length cc] 26)).alloc (.cells #[.slice a2 m.dt.length da, .int .i64 m.st, .slice t2 m.tk.length dt, .slice u2 m.hd.length du, .slice c2 m.cs.length dc] 26) = W at *
  have K1 := Hid.mk' (eqByteS_any a a2 ca da m.dt W HS.out.m1.1 HS.out.m2.1 s1)
  obtain ⟨x0, x1, x2, x3, x4, x5⟩ := cells5 HS.out.r1
  obtain ⟨y0, y1, y2, y3, y4, y5⟩ := cells5 HS.out.r2
  go_enter Tryz.func19, Tryz.ntmps19
  go_wp2_with fail
  clear hW x0 x1 x2 x3 x4 x5 y0 y1 y2 y3 y4 y5
  refine K1.out.mono ?_
  rintro e w1 ⟨rfl, hb⟩
  have HS := Hid.mk' (HS.out.below hb)
  clear hb K1
  have K2 := Hid.mk' (eqTokenS_any t t2 ct dt m.tk w1 HS.out.m1.2.1 HS.out.m2.2.1 s2)
  obtain ⟨x0, x1, x2, x3, x4, x5⟩ := cells5 HS.out.r1
  obtain ⟨y0, y1, y2, y3, y4, y5⟩ := cells5 HS.out.r2
  go_wp2_with fail
  clear x0 x1 x2 x3 x4 x5 y0 y1 y2 y3 y4 y5
  refine K2.out.mono ?_
  rintro e w2 ⟨rfl, hb⟩
  have HS := Hid.mk' (HS.out.below hb)
  clear hb K2
  have K3 := Hid.mk' (eqByteS_any u u2 cu du m.hd w2 HS.out.m1.2.2.1 HS.out.m2.2.2.1 s3)
  obtain ⟨x0, x1, x2, x3, x4, x5⟩ := cells5 HS.out.r1
  obtain ⟨y0, y1, y2, y3, y4, y5⟩ := cells5 HS.out.r2
  go_wp2_with fail
  clear x0 x1 x2 x3 x4 x5 y0 y1 y2 y3 y4 y5
  refine K3.out.mono ?_
  rintro e w3 ⟨rfl, hb⟩
  have HS := Hid.mk' (HS.out.below hb)
  clear hb K3
  have K4 := Hid.mk' (eqCheckS_any c c2 cc dc m.cs w3 HS.out.m1.2.2.2 HS.out.m2.2.2.2 s4)
  obtain ⟨x0, x1, x2, x3, x4, x5⟩ := cells5 HS.out.r1
  obtain ⟨y0, y1, y2, y3, y4, y5⟩ := cells5 HS.out.r2
  go_wp2_with fail
  clear x0 x1 x2 x3 x4 x5 y0 y1 y2 y3 y4 y5
  refine K4.out.mono ?_
  rintro e w4 ⟨rfl, hb⟩
  have HS := Hid.mk' (HS.out.below hb)
  clear hb K4
  go_wp2
  go_ret
  exact ⟨rfl, HS.out.bl⟩

end Go.Proofs.YtdloogkjnjklcaaGreatDoor

namespace Go.Proofs.YtdloogkjnjklcaaGreatDoor
open Go.RowKit

end Go.Proofs.YtdloogkjnjklcaaGreatDoor

namespace Go.Proofs.YtdloogkjnjklcaaGreatDoor
open Go.RowKit

end Go.Proofs.YtdloogkjnjklcaaGreatDoor

namespace Go.Proofs.YtdloogkjnjklcaaGreatDoor
open Go.RowKit

def FfP (h0 d : List Int) (w : World) (e : Ending) (w' : World) : Prop :=
  ∃ hv tv us rs bl bh lo g, e = .returned (.agg #[.int .i64 0, tv, hv]) ∧ w.heap.size ≤ lo ∧ LX lo g w' hv tv (allX [] h0 d).2 (allX [] h0 d).1 us rs bl bh ∧ Below w.heap.size w w'

theorem allX_from : ∀ (l : List Int) (ts : List TK) (hs : List Int), allX ts hs l = (ts ++ (allX [] hs l).1, (allX [] hs l).2)
  | [], ts, hs => by simp [allX]
  | x :: l, ts, hs => by
    have e : ∀ ts, allX ts hs (x :: l) = allX (ts ++ (feedX hs x.toNat).1) (feedX hs x.toNat).2 l := fun _ => rfl
    rw [e ts, e [], allX_from l (ts ++ _), allX_from l ([] ++ _)]
    simp

def ckAt (d : List Int) (s j : Nat) : CK := ⟨((j * s : Nat) : Int), ((allX [] [] (d.take (j * s))).1.length : Nat), (allX [] [] (d.take (j * s))).2⟩

def cksN (d : List Int) (s n : Nat) : List CK := (List.range n).map (ckAt d s)
theorem cksN_len (d : List Int) (s n : Nat) : (cksN d s n).length = n := by simp [cksN]
theorem cksN_at (d : List Int) (s n j : Nat) (h : j < n) : ckK (cksN d s n) j = ckAt d s j := by unfold ckK cksN; simp [h]

def memX (d : List Int) (s : Nat) : ME := ⟨d, (s : Int), (allX [] [] d).1, (allX [] [] d).2, cksN d s (d.length / s + 1)⟩

theorem allX_step (d : List Int) (s j : Nat) : allX [] [] (d.take ((j + 1) * s)) = ((allX [] [] (d.take (j * s))).1 ++ (allX [] (allX [] [] (d.take (j * s))).2 ((d.drop (j * s)).take s)).1, (allX [] (allX [] [] (d.take (j * s))).2 ((d.drop (j * s)).take s)).2) := by
  rw [show (j + 1) * s = j * s + s by rw [Nat.add_mul]; omega, List.take_add, allX_append, allX_from]

set_option maxRecDepth 100000 in
set_option maxHeartbeats 3200000 in
theorem feedFrom_any (tp : TypeId) (pv : Value) (h0 : List Int) (ah : Option Addr) (ch : Nat) (d : List Int) (ad : Option Addr) (cd : Nat) (w : World) (hE : Env w.heap.size tp pv w) (hh : BAt w ah h0) (hgd : GoodH h0) (hub : Byt h0) (hd : BAt w ad d) (hu : Byt d) (hl : d.length ≤ 240) :
    Calls Tryz.prog 50 #[.agg #[.slice ah h0.length ch], .slice ad d.length cd] w fun e w' => FfP h0 d w e w' := by
  obtain ⟨N0, x0, RR⟩ := boxesF w (.slice ah h0.length ch)
  have hgl := hgd.len
  have HH0 := Hid.mk' (hh.below N0)
  have HG0 := Hid.mk' hgd
  have HU0 := Hid.mk' hub
  have KF : Hid (∀ V : World, BAt V ah h0 → Calls Tryz.prog 77 #[.agg #[.slice ah h0.length ch]] V fun e w' => e = .returned (.int .i64 0) ∧ Below V.heap.size V w') := Hid.mk' (fun V hV => lexFault_any ah ch h0 V hV HG0.out)
  have KN : Hid (∀ V : World, BAt V ah h0 → Calls Tryz.prog 78 #[.agg #[.slice ah h0.length ch]] V fun e w' => ∃ g, e = .returned (.pointer (some ⟨g, 0, none⟩)) ∧ LXs V.heap.size g w' h0 [] ∧ Below V.heap.size V w') := Hid.mk' (fun V hV => newLexer_any ah ch h0 V hV (by omega))
  have HB := Hid.mk' N0
  have HD := Hid.mk' (hd.below N0)
  have HE := Hid.mk' (hE.keep N0)
  have HR := Hid.mk' RR
  clear N0 hd hE RR hh hgd hub
  generalize hW : (w.alloc (.cells #[.slice ah h0.length ch] 53)).alloc (.cells #[.int .i64 0, .slice none 0 0, .slice none 0 0] 55) = W at *
  have c6 : ¬ (240 : Int) < d.length := by omega
  go_enter Tryz.func50, Tryz.ntmps50
  go_wp2_with fail
  clear hW
  refine (KF.out _ HH0.out).mono ?_
  rintro e w1 ⟨rfl, hb1⟩
  have B1 := Hid.mk' (HB.out.trans (hb1.mono HB.out.size))
  have HH1 := Hid.mk' (HH0.out.below hb1)
  have R1 := Hid.mk' (rowB HR.out hb1)
  have D1 := Hid.mk' (HD.out.below hb1)
  have E1 := Hid.mk' (HE.out.keep (hb1.mono HB.out.size))
  have x1 := (hb1.cell (p := ⟨w.heap.size, 0, none⟩) (by have := HR.out.lt; show w.heap.size < _; omega)).trans x0
  clear hb1 x0 HR HD HE
  go_wp2_with fail
  refine (KN.out w1 HH1.out).mono ?_
  rintro e w2 ⟨g, rfl, hx, hb2⟩
  have B2 := Hid.mk' hb2
  have X2 := Hid.mk' hx
  have SB := B1.out.size
  clear hb2 x1 hx
  go_wp2
  go_loopw [24] (fun i wr => ∃ k : Nat, k ≤ d.length ∧ i = .int .i64 k ∧ LXs w1.heap.size g wr (allX [] h0 (d.take k)).2 (allX [] h0 (d.take k)).1 ∧ GoodH (allX [] h0 (d.take k)).2 ∧ Byt (allX [] h0 (d.take k)).2 ∧ (allX [] h0 (d.take k)).1.length ≤ 161 * k ∧ Below w1.heap.size w1 wr) (fun i _ => d.length - (intOf i).toNat)
  case atStart => exact ⟨0, Nat.zero_le _, rfl, X2.out, HG0.out, HU0.out, Nat.zero_le _, B2.out⟩
  case round =>
    obtain ⟨k, hk, rfl, hx, hg, hy, hn, hbl⟩ := hrel
    by_cases hlt : k < d.length
    · have ci : (k : Int) < (d.length : Int) := by omega
      rcases D1.out.below hbl with hd | ⟨a, o, rfl, hbs, hc⟩
      · exact absurd hlt (by rw [hd]; exact Nat.not_lt_zero _)
      obtain ⟨y0, y1⟩ := hu k hlt
      obtain ⟨y, hyy⟩ : ∃ y : Nat, d.getD k 0 = (y : Int) := ⟨(d.getD k 0).toNat, by omega⟩
      rw [hyy] at y1
      have hcell : wr.cell? ⟨a, o + k, none⟩ = some (.int .u8 y) := by rw [← hyy]; exact hc k hlt
      have ES : Hid (allX [] h0 (d.take (k + 1)) = ((allX [] h0 (d.take k)).1 ++ (feedX (allX [] h0 (d.take k)).2 y).1, (feedX (allX [] h0 (d.take k)).2 y).2)) := Hid.mk' (by
        rw [take_snoc_int hlt, allX_append, hyy]
        simp [allX])
      clear hc hyy y0
      generalize (allX [] h0 (d.take k)).1 = T at *
      generalize (allX [] h0 (d.take k)).2 = H at *
      have fl := feedX_len H y
      have gl := hg.len
      have G2 := Hid.mk' (feed_good y hg)
      have Y2 := Hid.mk' (feedX_byt (b := y) hy (by omega))
      have KS := Hid.mk' (lexState_any w1.heap.size g wr H T hx hy (by omega))
      have HY := Hid.mk' hy
      have BL := Hid.mk' hbl
      have KX : Hid (∀ w3 : World, LXs w1.heap.size g w3 H T → Below w1.heap.size wr w3 → Calls Tryz.prog (stN H) #[.pointer (some ⟨g, 0, none⟩), .int .u8 (y : Int)] w3 fun e w' => LxP w1.heap.size g (feedX H y).2 (T ++ (feedX H y).1) w3 e w') := Hid.mk' (fun w3 hx3 hb3 =>
        feed_any w1.heap.size w1.heap.size g tp pv y w3 H T hx3 ((E1.out.up SB (Nat.le_refl _)).keep (BL.out.trans hb3)) (Nat.le_refl _) HY.out (by omega) gl (by omega))
      clear hx hg hy hbl
      generalize (feedX H y).1 = FT at *
      generalize (feedX H y).2 = FH at *
      rcases stN_cases H with est | est | est | est
      all_goals
        rw [est] at KS KX
        clear est
        go_wp2_with fail
        refine KS.out.mono ?_
        rintro e w3 ⟨rfl, hx3, hb3⟩
        have KF2 := Hid.mk' (KX.out w3 hx3 hb3)
        have B3 := Hid.mk' (BL.out.trans hb3)
        clear hx3 hb3 KS KX
        go_wp2_with fail
        refine KF2.out.mono ?_
        rintro e w4 ⟨⟨v, rfl⟩, hx4, hb4⟩
        have X4 := Hid.mk' hx4
        have B4 := Hid.mk' (B3.out.trans hb4)
        clear hx4 hb4 KF2
        go_wp2
        go_roundw
        case rel => exact ⟨k + 1, by omega, by go_num, by rw [ES.out]; exact X4.out, by rw [ES.out]; exact G2.out, by rw [ES.out]; exact Y2.out, by rw [ES.out]; show (T ++ FT).length ≤ _; rw [List.length_append]; omega, B4.out⟩
        case measure => simp [intOf]; omega
    · have ci : ¬ (k : Int) < (d.length : Int) := by omega
      have e : k = d.length := by omega
      subst e
      rw [List.take_length] at hx
      obtain ⟨hv, tv, us, rs, bl, bh, h⟩ := hx
      have KR := Hid.mk' (result_any w1.heap.size g wr hv tv _ _ us rs bl bh h)
      have BL := Hid.mk' hbl
      obtain ⟨ha, hc, rfl, _⟩ := own_src h.held
      obtain ⟨ta, tc, rfl, _⟩ := own_src h.row
      clear hg hy hn hbl h
      go_wp2_with fail
      refine KR.out.mono ?_
      rintro e w3 ⟨rfl, hx3, hb3⟩
      have B3 := Hid.mk' (BL.out.trans (hb3.mono BL.out.size))
      have R3 := rowB R1.out B3.out
      obtain ⟨y0, y1, y2, y3⟩ := cells3 R3
      have f0 := R3.frozen 0
      have f1 := R3.frozen 1
      have f2 := R3.frozen 2
      have X3 := Hid.mk' hx3
      clear hx3 hb3 KR R3
      generalize hT : (allX [] h0 d).1 = T at *
      generalize hH : (allX [] h0 d).2 = H at *
      have HT := Hid.mk' hT
      have HH := Hid.mk' hH
      clear hT hH
      go_wp2
      refine bodyPost_ret (v := .agg #[.int .i64 0, .slice ta T.length tc, .slice ha H.length hc]) (by simp [results, Tryz.results50, go_sem, *]) rfl ?_
      have b1s := R1.out.lt
      refine ⟨_, _, us, rs, bl, bh, w1.heap.size, g, rfl, SB, ?_, three (B1.out.trans (B3.out.mono SB)) (by omega)⟩
      rw [HT.out, HH.out]
      exact X3.out.keep (by simp [World.setCell]) (fun k h1 h2 => by
        rw [Deep.blk_setCell_other _ _ _ _ (by show k ≠ w.heap.size + 1; omega), Deep.blk_setCell_other _ _ _ _ (by show k ≠ w.heap.size + 1; omega), Deep.blk_setCell_other _ _ _ _ (by show k ≠ w.heap.size + 1; omega)])

end Go.Proofs.YtdloogkjnjklcaaGreatDoor
