/- Patches that lie in memory; their sizes; they are copied, and told to be the same. -/
import Derived.Test.YtaihlcfpkabonaaDoorLtf
import Derived.Test.YtaihlcfpkabonaaDoorOwn
namespace Go.Proofs.YtaihlcfpkabonaaDoor
open Go.RowKit
set_option linter.unusedVariables false
set_option linter.unusedSimpArgs false

/-- A patch: its place, how many bytes it cuts, what it puts. -/
structure XK where
  pl : Int
  ct : Int
  hd : List Int

/-- The k-th of patches. -/
def xkK (l : List XK) (k : Nat) : XK := l.getD k ⟨0, 0, []⟩

/-- Patches lie at an address. -/
def XsAt (w : World) (a : Option Addr) (l : List XK) : Prop :=
  l = [] ∨ ∃ b o, a = some ⟨b, o, none⟩ ∧ b < w.heap.size ∧ ∀ k, k < l.length → w.cell? ⟨b, o + k * 3, none⟩ = some (.int .i64 (xkK l k).pl) ∧ w.cell? ⟨b, o + k * 3 + 1, none⟩ = some (.int .i64 (xkK l k).ct) ∧ ∃ p c, w.cell? ⟨b, o + k * 3 + 2, none⟩ = some (.slice p (xkK l k).hd.length c) ∧ BAt w p (xkK l k).hd

theorem XsAt.below {w w' : World} {a : Option Addr} {l : List XK} (h : XsAt w a l) (hb : Below w.heap.size w w') : XsAt w' a l := by
  rcases h with h | ⟨b, o, e, hs, hc⟩
  · exact .inl h
  · refine .inr ⟨b, o, e, Nat.lt_of_lt_of_le hs hb.size, fun k hk => ?_⟩
    obtain ⟨h1, h2, p, c, h3, h4⟩ := hc k hk
    exact ⟨(hb.cell hs).trans h1, (hb.cell hs).trans h2, p, c, (hb.cell hs).trans h3, h4.below hb⟩

/-- The bytes of patches. -/
def xsz : List XK → Nat
  | [] => 0
  | x :: r => x.hd.length + xsz r

theorem xsz_take (l : List XK) : ∀ k, k < l.length → xsz (l.take (k + 1)) = xsz (l.take k) + (xkK l k).hd.length := by
  induction l with
  | nil => intro k h; exact absurd h (Nat.not_lt_zero _)
  | cons x r ih =>
    intro k hk
    cases k with
    | zero => simp [xsz, xkK]
    | succ k =>
      have := ih k (by simpa using hk)
      simp only [List.take_succ_cons, xsz]
      rw [this]
      have e : xkK (x :: r) (k + 1) = xkK r k := by simp [xkK]
      rw [e]; omega

theorem xsz_le (l : List XK) (k : Nat) : xsz (l.take k) ≤ xsz l := by
  induction l generalizing k with
  | nil => simp [xsz]
  | cons x r ih =>
    cases k with
    | zero => simp [xsz]
    | succ k => simp only [List.take_succ_cons, xsz]; have := ih k; omega

theorem szPatch_any (x y : Int) (a : Option Addr) (n c : Nat) (l : Int) (w : World) (h0 : 0 ≤ l) (h1 : l ≤ 1048576) (hn : (n : Int) ≤ 9223372036854775807) :
    Calls Tryd.prog 10 #[.agg #[.int .i64 x, .int .i64 y, .slice a n c], .int .i64 l] w fun e w' => e = .returned (.int .i64 (if l < (n : Int) then -1 else l - n)) ∧ Below w.heap.size w w' := by
  by_cases g2 : l < (n : Int)
  · rw [if_pos (by omega)]
    go_enter Tryd.func10, Tryd.ntmps10
    go_wp2_with (go_at_call 18; refine (szByteS_any _ _ _ _ _ (by omega) (by omega) (by omega)).mono ?_; rintro e w' ⟨rfl, rfl⟩)
    go_ret
    exact ⟨rfl, (Below.refl _ _).alloc (Nat.le_refl _) _⟩
  · rw [if_neg (by omega)]
    go_enter Tryd.func10, Tryd.ntmps10
    go_wp2_with (go_at_call 18; refine (szByteS_any _ _ _ _ _ (by omega) (by omega) (by omega)).mono ?_; rintro e w' ⟨rfl, rfl⟩)
    go_ret
    exact ⟨rfl, (Below.refl _ _).alloc (Nat.le_refl _) _⟩

/-- Numbers of a machine, and no wider. -/
def WideX (l : List XK) : Prop := ∀ k, k < l.length → ((xkK l k).hd.length : Int) ≤ 9223372036854775807 ∧ -9223372036854775808 ≤ (xkK l k).pl ∧ (xkK l k).pl ≤ 9223372036854775807 ∧ -9223372036854775808 ≤ (xkK l k).ct ∧ (xkK l k).ct ≤ 9223372036854775807

set_option maxHeartbeats 800000 in
theorem szPatchS_any (a : Option Addr) (c : Nat) (l : List XK) (z : Int) (w : World) (ha : XsAt w a l) (hw : WideX l) (h0 : 0 ≤ z) (h1 : z ≤ 1048576) (hl : (l.length : Int) ≤ 9223372036854775807) :
    Calls Tryd.prog 4 #[.slice a l.length c, .int .i64 z] w fun e w' => e = .returned (.int .i64 (if z < (l.length : Int) + xsz l then -1 else z - l.length - xsz l)) ∧ Below w.heap.size w w' := by
  by_cases g1 : z < (l.length : Int)
  · rw [if_pos (by omega)]
    go_enter Tryd.func4, Tryd.ntmps4
    go_wp2
    go_ret
    exact ⟨rfl, Below.refl _ _⟩
  have HA := Hid.mk' ha
  have HW := Hid.mk' hw
  clear ha hw
  go_enter Tryd.func4, Tryd.ntmps4
  go_wp2
  go_loopw [1, 5] (fun x i wr => ∃ k : Nat, k ≤ l.length ∧ i = .int .i64 k ∧ x = .int .i64 (z - (l.length : Int) - (xsz (l.take k) : Int)) ∧ (xsz (l.take k) : Int) ≤ z - l.length ∧ Below w.heap.size w wr) (fun _ i _ => l.length - (intOf i).toNat)
  case atStart => exact ⟨0, Nat.zero_le _, rfl, by simp [xsz], by simp [xsz]; omega, Below.refl _ _⟩
  case round =>
    obtain ⟨k, hk, rfl, rfl, hz, hbl⟩ := hrel
    have HB := Hid.mk' hbl
    clear hbl
    by_cases hlt : k < l.length
    · have ci : (k : Int) < (l.length : Int) := by omega
      rcases HA.out.below HB.out with ha | ⟨b, o, rfl, hbs, hc⟩
      · exact absurd hlt (by rw [ha]; exact Nat.not_lt_zero _)
      obtain ⟨q1, q3, p, d, q2, _⟩ := hc k hlt
      have w2 := (HW.out k hlt).1
      have st := xsz_take l k hlt
      have KA := Hid.mk' (szPatch_any (xkK l k).pl (xkK l k).ct p (xkK l k).hd.length d (z - (l.length : Int) - (xsz (l.take k) : Int)) wr (by omega) (by omega) w2)
      generalize hn1 : (xkK l k).pl = pl at *
      generalize hn3 : (xkK l k).ct = ct at *
      generalize hn2 : (xkK l k).hd.length = n at *
      generalize hy : z - (l.length : Int) - (xsz (l.take k) : Int) = y at *
      clear hc
      by_cases g2 : y < (n : Int)
      · rw [if_pos g2] at KA
        have gz : z < (l.length : Int) + xsz l := by have := xsz_le l (k + 1); omega
        go_wp2_with fail
        refine KA.out.mono ?_
        rintro e w1 ⟨rfl, hb⟩
        have HB := Hid.mk' (HB.out.trans (hb.mono HB.out.size))
        clear hb KA
        go_wp2
        go_ret
        exact ⟨by first | rfl | (rw [if_pos gz]; rfl), HB.out⟩
      · rw [if_neg g2] at KA
        have gy : ¬ (y - (n : Int) < 0) := by omega
        go_wp2_with fail
        refine KA.out.mono ?_
        rintro e w1 ⟨rfl, hb⟩
        have HB := Hid.mk' (HB.out.trans (hb.mono HB.out.size))
        clear hb KA
        go_wp2
        go_roundw
        case rel => exact ⟨k + 1, by omega, by go_num, by congr 1; omega, by omega, HB.out⟩
        case measure => simp [intOf]; omega
    · have ci : ¬ (k : Int) < (l.length : Int) := by omega
      have e : k = l.length := by omega
      subst e
      rw [List.take_length] at hz
      go_wp2
      go_ret
      exact ⟨by first | rfl | (simp; done) | (rw [if_neg (by omega)]; simp), HB.out⟩

theorem Tryd.info38 : (Tryd.prog.info? 38).map (fun i => (i.zero, i.size, i.bytes)) = some (some (.agg #[.int .i64 0, .int .i64 0, .slice none 0 0]), 3, 40) := by kernel_rfl

theorem make_patches {P : Program} (t e : TypeId) (ht : P.underlying t = some (.slice e)) (hinfo : (P.info? e).map (fun i => (i.zero, i.size, i.bytes)) = some (some (.agg #[.int .i64 0, .int .i64 0, .slice none 0 0]), 3, 40))
    (n : Nat) (hn : (n : Int) ≤ 1048576) (w : World) :
    (Instr.makeSlice t (.int .i64 (n : Int)) (.int .i64 (n : Int))).run P w = .ok (.slice (some ⟨w.heap.size, 0, none⟩) n n) (w.alloc (.cells (madeCells #[.int .i64 0, .int .i64 0, .slice none 0 0] (n * 3)) e)) := by
  obtain ⟨i, hi, hzz⟩ := Option.map_eq_some_iff.1 hinfo
  simp only [Prod.mk.injEq] at hzz
  obtain ⟨hz, hs, hb⟩ := hzz
  have hr := run_make (P := P) w t e i _ ht hi hz .i64 .i64 n n (by omega) (Int.le_refl _) (by rw [hb]; omega) (by omega)
  simp only [Int.toNat_natCast, hs] at hr
  exact hr

set_option maxHeartbeats 800000 in
theorem toPatch_any (x y : Int) (a : Option Addr) (c : Nat) (l : List Int) (w : World) (ha : BAt w a l) (hl : (l.length : Int) ≤ 1048576) :
    Calls Tryd.prog 13 #[.agg #[.int .i64 x, .int .i64 y, .slice a l.length c]] w fun e w' => ∃ b, e = .returned (.agg #[.int .i64 x, .int .i64 y, .slice (some ⟨b, 0, none⟩) l.length l.length]) ∧ w.heap.size ≤ b ∧ w'.rowIs b 5 l.length (bv l) ∧ Below w.heap.size w w' := by
  have B0 := ((Below.refl w.heap.size w).alloc (Nat.le_refl _) (.cells #[.int .i64 x, .int .i64 y, .slice a l.length c] 35)).alloc (by simp) (.cells #[.int .i64 0, .int .i64 0, .slice none 0 0] 38)
  have B1 := B0.alloc (by simp; omega) (.cells #[.int .i64 x, .int .i64 y, .slice none 0 0] 38)
  have RR := (row3 (w.alloc (.cells #[.int .i64 x, .int .i64 y, .slice a l.length c] 35)) 38 (.int .i64 0) (.int .i64 0) (.slice none 0 0)).alloc (.cells #[.int .i64 x, .int .i64 y, .slice none 0 0] 38)
  have RO := row3 ((w.alloc (.cells #[.int .i64 x, .int .i64 y, .slice a l.length c] 35)).alloc (.cells #[.int .i64 0, .int .i64 0, .slice none 0 0] 38)) 38 (.int .i64 x) (.int .i64 y) (.slice none 0 0)
  have RP := ((row3 w 35 (.int .i64 x) (.int .i64 y) (.slice a l.length c)).alloc (.cells #[.int .i64 0, .int .i64 0, .slice none 0 0] 38)).alloc (.cells #[.int .i64 x, .int .i64 y, .slice none 0 0] 38)
  have KB := Hid.mk' (toByteS_any a c l _ (ha.below B1) hl)
  have HB := Hid.mk' B1
  have z1 : (w.alloc (.cells #[.int .i64 x, .int .i64 y, .slice a l.length c] 35)).heap.size = w.heap.size + 1 := by simp
  have z2 : ((w.alloc (.cells #[.int .i64 x, .int .i64 y, .slice a l.length c] 35)).alloc (.cells #[.int .i64 0, .int .i64 0, .slice none 0 0] 38)).heap.size = w.heap.size + 1 + 1 := by simp
  have z3 : (((w.alloc (.cells #[.int .i64 x, .int .i64 y, .slice a l.length c] 35)).alloc (.cells #[.int .i64 0, .int .i64 0, .slice none 0 0] 38)).alloc (.cells #[.int .i64 x, .int .i64 y, .slice none 0 0] 38)).heap.size = w.heap.size + 1 + 1 + 1 := by simp
  rw [z1] at RR
  rw [z2] at RO
  have HR := Hid.mk' RR
  have HO := Hid.mk' RO
  have Z3 := Hid.mk' z3
  have HP := Hid.mk' RP
  clear ha B0 B1 RR RO RP z1 z2 z3
  generalize hW : ((w.alloc (.cells #[.int .i64 x, .int .i64 y, .slice a l.length c] 35)).alloc (.cells #[.int .i64 0, .int .i64 0, .slice none 0 0] 38)).alloc (.cells #[.int .i64 x, .int .i64 y, .slice none 0 0] 38) = W at *
  obtain ⟨p0, p1, p2_, p3⟩ := cells3 HP.out
  go_enter Tryd.func13, Tryd.ntmps13
  go_wp2_with fail
  clear hW
  refine KB.out.mono ?_
  rintro e w1 ⟨b, rfl, hb, hrow, hbl⟩
  have Ho := rowB HO.out hbl
  have Hr := rowB HR.out hbl
  obtain ⟨o0, o1, o2, o3⟩ := cells3 Ho
  obtain ⟨r0, r1, r2, r3_⟩ := cells3 Hr
  have fo := Ho.frozen 2
  have fr0 := Hr.frozen 0
  have fr1 := Hr.frozen 1
  have fr2 := Hr.frozen 2
  have KK : Hid (KeptIn (w.heap.size + 1) (w.heap.size + 1 + 1 + 1) w1 ((((w1.setCell ⟨w.heap.size + 1 + 1, 2, none⟩ (.slice (some ⟨b, 0, none⟩) l.length l.length)).setCell ⟨w.heap.size + 1, 0, none⟩ (.int .i64 x)).setCell ⟨w.heap.size + 1, 1, none⟩ (.int .i64 y)).setCell ⟨w.heap.size + 1, 2, none⟩ (.slice (some ⟨b, 0, none⟩) l.length l.length))) :=
    ((((KeptIn.refl _ _ w1).setCell (p := ⟨w.heap.size + 1 + 1, 2, none⟩) (by simp) (by simp) _).setCell (p := ⟨w.heap.size + 1, 0, none⟩) (by simp) (by simp) _).setCell (p := ⟨w.heap.size + 1, 1, none⟩) (by simp) (by simp) _).setCell (p := ⟨w.heap.size + 1, 2, none⟩) (by simp) (by simp) _
  have HW := Hid.mk' hrow
  have HL := Hid.mk' hbl
  have hb' : w.heap.size + 1 + 1 + 1 ≤ b := by have := Z3.out; omega
  have hwl : w.heap.size + 1 ≤ w1.heap.size := by have := Z3.out; have := hbl.size; omega
  clear hrow hbl Ho Hr KB HO HR hb
  go_wp2
  refine bodyPost_ret (v := .agg #[.int .i64 x, .int .i64 y, .slice (some ⟨b, 0, none⟩) l.length l.length]) (by simp [results, Tryd.results13, go_sem, *]) rfl ?_
  exact ⟨b, rfl, by omega, rowK HW.out KK.out (.inr hb'), (HB.out.trans (HL.out.mono HB.out.size)).trans (KK.out.below (by omega) (by omega))⟩

/-- Patches being copied into a row of one's own: k of them are there; what each holds lies behind what the one ahead does. -/
structure XR (w : World) (l : List XK) (k : Nat) (wr : World) : Prop where
  bl : Below w.heap.size w wr
  row : ∃ (f : Nat → Value) (β : Nat → Nat), wr.rowIs w.heap.size 38 (l.length * 3) f ∧ ∀ j, j < k → f (j * 3) = .int .i64 (xkK l j).pl ∧ f (j * 3 + 1) = .int .i64 (xkK l j).ct ∧ f (j * 3 + 2) = .slice (some ⟨β j, 0, none⟩) (xkK l j).hd.length (xkK l j).hd.length ∧ w.heap.size < β j ∧ wr.rowIs (β j) 5 (xkK l j).hd.length (bv (xkK l j).hd) ∧ ∀ i, i < j → β i < β j

theorem XR.start (w : World) (l : List XK) : XR w l 0 (w.alloc (.cells (madeCells #[.int .i64 0, .int .i64 0, .slice none 0 0] (l.length * 3)) 38)) := by
  refine ⟨(Below.refl _ _).alloc (Nat.le_refl _) _, fun i => r3 (.int .i64 0) (.int .i64 0) (.slice none 0 0) (i % 3), fun _ => 0, ?_, fun j hj => absurd hj (Nat.not_lt_zero _)⟩
  refine ⟨_, Deep.blk_alloc_new _ _, size_madeCells _ _, fun i hi => ?_⟩
  have h : i % 3 = 0 ∨ i % 3 = 1 ∨ i % 3 = 2 := by omega
  rcases h with h | h | h <;> simp [madeCells, hi, h, r3]

theorem XR.below {w wr w1 : World} {l : List XK} {k : Nat} (h : XR w l k wr) (hb : Below wr.heap.size wr w1) : XR w l k w1 := by
  obtain ⟨f, β, hf, hj⟩ := h.row
  refine ⟨h.bl.trans (hb.mono h.bl.size), f, β, rowB hf hb, fun j hk => ?_⟩
  obtain ⟨h1, h2, h3, h4, h5, h6⟩ := hj j hk
  exact ⟨h1, h2, h3, h4, rowB h5 hb, h6⟩

theorem XR.step {w wr w1 : World} {l : List XK} {k b : Nat} (h : XR w l k wr) (hb1 : Below wr.heap.size wr w1) (hb : wr.heap.size ≤ b) (hrow : w1.rowIs b 5 (xkK l k).hd.length (bv (xkK l k).hd)) :
    XR w l (k + 1) (((w1.setCell ⟨w.heap.size, k * 3, none⟩ (.int .i64 (xkK l k).pl)).setCell ⟨w.heap.size, k * 3 + 1, none⟩ (.int .i64 (xkK l k).ct)).setCell ⟨w.heap.size, k * 3 + 2, none⟩ (.slice (some ⟨b, 0, none⟩) (xkK l k).hd.length (xkK l k).hd.length)) := by
  obtain ⟨f, β, hf0, hj⟩ := h.row
  have hwl := hf0.lt
  have hf := rowB hf0 hb1
  have K := (((KeptIn.refl w.heap.size (w.heap.size + 1) w1).setCell (p := ⟨w.heap.size, k * 3, none⟩) (Nat.le_refl _) (Nat.lt_succ_self _) (.int .i64 (xkK l k).pl)).setCell (p := ⟨w.heap.size, k * 3 + 1, none⟩) (Nat.le_refl _) (Nat.lt_succ_self _) (.int .i64 (xkK l k).ct)).setCell (p := ⟨w.heap.size, k * 3 + 2, none⟩) (Nat.le_refl _) (Nat.lt_succ_self _) (.slice (some ⟨b, 0, none⟩) (xkK l k).hd.length (xkK l k).hd.length)
  refine ⟨(h.bl.trans (hb1.mono h.bl.size)).trans (K.below (Nat.le_refl _) (Nat.le_trans h.bl.size hb1.size)), _, fun j => if j = k then b else β j, ((hf.set (k * 3) _).set (k * 3 + 1) _).set (k * 3 + 2) _, fun j hk => ?_⟩
  by_cases e : j = k
  · subst e
    dsimp only
    refine ⟨?_, ?_, ?_, ?_, ?_, fun i hi => ?_⟩
    · rw [if_neg (by omega), if_neg (by omega), if_pos rfl]
    · rw [if_neg (by omega), if_pos rfl]
    · rw [if_pos rfl, if_pos rfl]
    · rw [if_pos rfl]; omega
    · rw [if_pos rfl]; exact rowK hrow K (.inr (by omega))
    · rw [if_pos rfl, if_neg (by omega)]
      have := (hj i hi).2.2.2.2.1.lt
      omega
  · obtain ⟨h1, h2, h3, h4, h5, h6⟩ := hj j (by omega)
    dsimp only
    refine ⟨?_, ?_, ?_, ?_, ?_, fun i hi => ?_⟩
    · rw [if_neg (by omega), if_neg (by omega), if_neg (by omega)]; exact h1
    · rw [if_neg (by omega), if_neg (by omega), if_neg (by omega)]; exact h2
    · rw [if_neg (by omega), if_neg (by omega), if_neg (by omega), if_neg e]; exact h3
    · rw [if_neg e]; exact h4
    · rw [if_neg e]; exact rowK (rowB h5 hb1) K (.inr (by omega))
    · rw [if_neg e, if_neg (by omega)]; exact h6 i hi

theorem XR.at {w wr : World} {l : List XK} (h : XR w l l.length wr) : XsAt wr (some ⟨w.heap.size, 0, none⟩) l := by
  obtain ⟨f, β, hf, hj⟩ := h.row
  refine .inr ⟨_, _, rfl, hf.lt, fun k hk => ?_⟩
  obtain ⟨h1, h2, h3, h4, h5, h6⟩ := hj k hk
  have c := fun i (hi : i < 3) => hf.cell (show k * 3 + i < l.length * 3 by omega)
  refine ⟨by rw [Nat.zero_add]; exact (c 0 (by omega)).trans (by rw [Nat.add_zero, h1]), by rw [Nat.zero_add, c 1 (by omega), h2], _, _, by rw [Nat.zero_add, c 2 (by omega), h3], .of_row h5⟩

set_option maxHeartbeats 800000 in
theorem toPatchS_any (a : Option Addr) (c : Nat) (l : List XK) (w : World) (ha : XsAt w a l) (hl : (l.length : Int) + xsz l ≤ 1048576) :
    Calls Tryd.prog 6 #[.slice a l.length c] w fun e w' => e = .returned (.slice (some ⟨w.heap.size, 0, none⟩) l.length l.length) ∧ XR w l l.length w' := by
  have hmk := make_patches (P := Tryd.prog) 27 38 Tryd.underlying27 Tryd.info38 l.length (by omega)
  have HA := Hid.mk' ha
  clear ha
  go_enter Tryd.func6, Tryd.ntmps6
  go_wp2
  go_loopw [4] (fun i wr => ∃ k : Nat, k ≤ l.length ∧ i = .int .i64 k ∧ XR w l k wr) (fun i _ => l.length - (intOf i).toNat)
  case atStart => exact ⟨0, Nat.zero_le _, rfl, XR.start w l⟩
  case round =>
    obtain ⟨k, hk, rfl, hr⟩ := hrel
    have HR := Hid.mk' hr
    clear hr hmk
    by_cases hlt : k < l.length
    · have ci : (k : Int) < (l.length : Int) := by omega
      rcases HA.out with ha | ⟨b, o, rfl, hbs, hc⟩
      · exact absurd hlt (by rw [ha]; exact Nat.not_lt_zero _)
      obtain ⟨q1, q0, p, d, q2, q3⟩ := hc k hlt
      have h1 := (HR.out.bl.cell hbs).trans q1
      have h0 := (HR.out.bl.cell hbs).trans q0
      have h2 := (HR.out.bl.cell hbs).trans q2
      have st := xsz_take l k hlt
      have sl := xsz_le l (k + 1)
      have KA := Hid.mk' (toPatch_any (xkK l k).pl (xkK l k).ct p d (xkK l k).hd wr (q3.below HR.out.bl) (by omega))
      clear q0 q1 q2 q3 hc st sl
      go_wp2_with fail
      refine KA.out.mono ?_
      rintro e w1 ⟨g, rfl, hg, hrow, hbl⟩
      obtain ⟨f00, β00, hf00, _⟩ := HR.out.row
      have hf := rowB hf00 hbl
      have f0 := hf.frozen (k * 3)
      have f1 := hf.frozen (k * 3 + 1)
      have f2 := hf.frozen (k * 3 + 2)
      obtain ⟨v0, g0⟩ : ∃ v, w1.cell? ⟨w.heap.size, k * 3, none⟩ = some v := ⟨_, hf.cell (by omega)⟩
      obtain ⟨v1, g1⟩ : ∃ v, w1.cell? ⟨w.heap.size, k * 3 + 1, none⟩ = some v := ⟨_, hf.cell (by omega)⟩
      obtain ⟨v2, g2⟩ : ∃ v, w1.cell? ⟨w.heap.size, k * 3 + 2, none⟩ = some v := ⟨_, hf.cell (by omega)⟩
      have R1 := Hid.mk' (HR.out.step hbl hg hrow)
      clear hf hf00 hrow hbl KA h0 h1 h2 hg
      go_wp2
      go_roundw
      case rel => exact ⟨k + 1, by omega, by go_num, R1.out⟩
      case measure => simp [intOf]; omega
    · have ci : ¬ (k : Int) < (l.length : Int) := by omega
      have e : k = l.length := by omega
      subst e
      go_wp2
      go_ret
      exact ⟨rfl, HR.out⟩

set_option maxHeartbeats 400000 in
theorem eqPatch_any (x y : Int) (a b : Option Addr) (c d : Nat) (l : List Int) (w : World) (ha : BAt w a l) (hb : BAt w b l) (hl : (l.length : Int) ≤ 1048576) :
    Calls Tryd.prog 17 #[.agg #[.int .i64 x, .int .i64 y, .slice a l.length c], .agg #[.int .i64 x, .int .i64 y, .slice b l.length d]] w fun e w' => e = .returned (.bool true) ∧ Below w.heap.size w w' := by
  have B0 := ((Below.refl w.heap.size w).alloc (Nat.le_refl _) (.cells #[.int .i64 x, .int .i64 y, .slice a l.length c] 38)).alloc (by simp) (.cells #[.int .i64 x, .int .i64 y, .slice b l.length d] 38)
  have KB := Hid.mk' (eqByteS_any a b c d l _ (ha.below B0) (hb.below B0) hl)
  have HB := Hid.mk' B0
  clear ha hb B0
  go_enter Tryd.func17, Tryd.ntmps17
  go_wp2_with fail
  refine KB.out.mono ?_
  rintro e w1 ⟨rfl, hb⟩
  have HB := Hid.mk' (HB.out.trans (hb.mono HB.out.size))
  clear hb KB
  go_wp2
  go_ret
  exact ⟨rfl, HB.out⟩

set_option maxHeartbeats 1600000 in
theorem eqPatchS_any (a b : Option Addr) (c d : Nat) (l : List XK) (w : World) (ha : XsAt w a l) (hb : XsAt w b l) (hl : (l.length : Int) + xsz l ≤ 1048576) :
    Calls Tryd.prog 9 #[.slice a l.length c, .slice b l.length d] w fun e w' => e = .returned (.bool true) ∧ Below w.heap.size w w' := by
  have HA := Hid.mk' ha
  have HB := Hid.mk' hb
  clear ha hb
  go_enter Tryd.func9, Tryd.ntmps9
  go_wp2
  go_loopw [5] (fun i wr => ∃ k : Nat, k ≤ l.length ∧ i = .int .i64 k ∧ Below w.heap.size w wr) (fun i _ => l.length - (intOf i).toNat)
  case atStart => exact ⟨0, Nat.zero_le _, rfl, Below.refl _ _⟩
  case round =>
    obtain ⟨k, hk, rfl, hbl⟩ := hrel
    have R2 := Hid.mk' hbl
    by_cases hlt : k < l.length
    · have ci : (k : Int) < (l.length : Int) := by omega
      rcases HA.out.below hbl with ha | ⟨b1, o1, rfl, s1, hc1⟩
      · exact absurd hlt (by rw [ha]; exact Nat.not_lt_zero _)
      rcases HB.out.below hbl with hb | ⟨b2, o2, rfl, s2, hc2⟩
      · exact absurd hlt (by rw [hb]; exact Nat.not_lt_zero _)
      obtain ⟨h1, h7, p1, d1, h2, h3⟩ := hc1 k hlt
      obtain ⟨h4, h8, p2_, d2, h5, h6⟩ := hc2 k hlt
      have st := xsz_take l k hlt
      have sl := xsz_le l (k + 1)
      have KE : Hid (Calls Tryd.prog 17 #[.agg #[.int .i64 (xkK l k).pl, .int .i64 (xkK l k).ct, .slice p1 (xkK l k).hd.length d1], .agg #[.int .i64 (xkK l k).pl, .int .i64 (xkK l k).ct, .slice p2_ (xkK l k).hd.length d2]] wr.drew fun e w' => e = .returned (.bool true) ∧ Below wr.drew.heap.size wr.drew w') := eqPatch_any _ _ _ _ _ _ _ _ (h3.below (Below.refl _ _).drew) (h6.below (Below.refl _ _).drew) (by omega)
      clear hbl hc1 hc2 h3 h6 st sl
      go_wp2
      go_region_held3 (fun w' => w'.cell? ⟨b1, o1 + k * 3, none⟩ = some (.int .i64 (xkK l k).pl) ∧ w'.cell? ⟨b1, o1 + k * 3 + 1, none⟩ = some (.int .i64 (xkK l k).ct) ∧ w'.cell? ⟨b1, o1 + k * 3 + 2, none⟩ = some (.slice p1 (xkK l k).hd.length d1) ∧ w'.cell? ⟨b2, o2 + k * 3, none⟩ = some (.int .i64 (xkK l k).pl) ∧ w'.cell? ⟨b2, o2 + k * 3 + 1, none⟩ = some (.int .i64 (xkK l k).ct) ∧ w'.cell? ⟨b2, o2 + k * 3 + 2, none⟩ = some (.slice p2_ (xkK l k).hd.length d2)) (simp [*])
        ((go_at_call 17; refine KE.out.mono ?_; rintro e w1 ⟨rfl, hb1⟩; replace hb1 := undrew hb1; obtain ⟨hx1, hx2⟩ := bcell hb1))
      go_wp2
      go_roundw
      case rel => exact ⟨k + 1, by omega, by go_num, R2.out.trans (hb1.mono R2.out.size)⟩
      case measure => simp [intOf]; omega
    · have ci : ¬ (k : Int) < (l.length : Int) := by omega
      go_wp2
      go_ret
      exact ⟨rfl, R2.out⟩

end Go.Proofs.YtaihlcfpkabonaaDoor
