/- Memos told to be the same: the program's side. -/
import Derived.Test.YtbdjppiagjhfmaaMkb
import Derived.Test.YtbdjppiagjhfmaaTv
import Derived.BigGuard
namespace Go.Proofs.Ytbdjppiagjhfmaa
open Go.RowKit
set_option linter.unusedVariables false
set_option linter.unusedSimpArgs false

/-- Bytes told to be the same. -/
def beqB (l m : List Int) : Bool := (strI l).toList == (strI m).toList
def ceq (x y : CK) : Bool := (x.pl == y.pl) && ((x.ct == y.ct) && beqB x.hd y.hd)
def sameCs (l m : List CK) : Bool := decide (l.length = m.length) && allK l.length (fun k => ceq (ckK l k) (ckK m k))
def sameR (m n : ME) : Bool := sameTs m.tk n.tk && (beqB m.hd n.hd && sameCs m.cs n.cs)
def sameM (m n : ME) : Bool := beqB m.dt n.dt && ((m.st == n.st) && sameR m n)

/-- Two memos in their boxes. -/
theorem two5 (w : World) (T : TypeId) (x0 x1 x2 x3 x4 y0 y1 y2 y3 y4 : Value) :
    Below w.heap.size w ((w.alloc (.cells #[x0, x1, x2, x3, x4] T)).alloc (.cells #[y0, y1, y2, y3, y4] T)) ∧ ((w.alloc (.cells #[x0, x1, x2, x3, x4] T)).alloc (.cells #[y0, y1, y2, y3, y4] T)).rowIs w.heap.size T 5 (r5 x0 x1 x2 x3 x4) ∧ ((w.alloc (.cells #[x0, x1, x2, x3, x4] T)).alloc (.cells #[y0, y1, y2, y3, y4] T)).rowIs (w.heap.size + 1) T 5 (r5 y0 y1 y2 y3 y4) := by
  refine ⟨((Below.refl w.heap.size w).alloc (Nat.le_refl _) _).alloc (by simp) _, (row5 w T x0 x1 x2 x3 x4).alloc _, ?_⟩
  have := row5 (w.alloc (.cells #[x0, x1, x2, x3, x4] T)) T y0 y1 y2 y3 y4
  rw [show (w.alloc (.cells #[x0, x1, x2, x3, x4] T)).heap.size = w.heap.size + 1 from by simp] at this
  exact this

/-- What a walk over two memos in their boxes holds on to. -/
structure M2 (w : World) (m n : ME) (a t u c a2 t2 u2 c2 : Option Addr) (ca ct cu cc da dt du dc : Nat) (wi : World) : Prop where
  bl : Below w.heap.size w wi
  r1 : wi.rowIs w.heap.size 68 5 (r5 (.slice a m.dt.length ca) (.int .i64 m.st) (.slice t m.tk.length ct) (.slice u m.hd.length cu) (.slice c m.cs.length cc))
  r2 : wi.rowIs (w.heap.size + 1) 68 5 (r5 (.slice a2 n.dt.length da) (.int .i64 n.st) (.slice t2 n.tk.length dt) (.slice u2 n.hd.length du) (.slice c2 n.cs.length dc))
  m1 : MAt wi a t u c m
  m2 : MAt wi a2 t2 u2 c2 n

theorem M2.below {w : World} {m n : ME} {a t u c a2 t2 u2 c2 : Option Addr} {ca ct cu cc da dt du dc : Nat} {wi wj : World} (x : M2 w m n a t u c a2 t2 u2 c2 ca ct cu cc da dt du dc wi) (hb : Below wi.heap.size wi wj) : M2 w m n a t u c a2 t2 u2 c2 ca ct cu cc da dt du dc wj :=
  ⟨x.bl.trans (hb.mono x.bl.size), rowB x.r1 hb, rowB x.r2 hb, x.m1.below hb, x.m2.below hb⟩

theorem M2.start {w : World} {m n : ME} {a t u c a2 t2 u2 c2 : Option Addr} {ca ct cu cc da dt du dc : Nat} (h1 : MAt w a t u c m) (h2 : MAt w a2 t2 u2 c2 n) : M2 w m n a t u c a2 t2 u2 c2 ca ct cu cc da dt du dc ((w.alloc (.cells #[.slice a m.dt.length ca, .int .i64 m.st, .slice t m.tk.length ct, .slice u m.hd.length cu, .slice c m.cs.length cc] 68)).alloc (.cells #[.slice a2 n.dt.length da, .int .i64 n.st, .slice t2 n.tk.length dt, .slice u2 n.hd.length du, .slice c2 n.cs.length dc] 68)) := by
  obtain ⟨B0, R1, R2⟩ := two5 w 68 (.slice a m.dt.length ca) (.int .i64 m.st) (.slice t m.tk.length ct) (.slice u m.hd.length cu) (.slice c m.cs.length cc) (.slice a2 n.dt.length da) (.int .i64 n.st) (.slice t2 n.tk.length dt) (.slice u2 n.hd.length du) (.slice c2 n.cs.length dc)
  exact ⟨B0, R1, R2, h1.below B0, h2.below B0⟩


set_option maxHeartbeats 800000 in
theorem sameCheck_any (x y : CK) (a b : Option Addr) (c d : Nat) (w : World) (ha : BAt w a x.hd) (hb : BAt w b y.hd) :
    Calls Try.prog 101 #[.agg #[.int .i64 x.pl, .int .i64 x.ct, .slice a x.hd.length c], .agg #[.int .i64 y.pl, .int .i64 y.ct, .slice b y.hd.length d]] w fun e w' => e = .returned (.bool (ceq x y)) ∧ Below w.heap.size w w' := by
  have B0 := ((Below.refl w.heap.size w).alloc (Nat.le_refl _) (.cells #[.int .i64 x.pl, .int .i64 x.ct, .slice a x.hd.length c] 141)).alloc (by simp) (.cells #[.int .i64 y.pl, .int .i64 y.ct, .slice b y.hd.length d] 141)
  have KB := Hid.mk' (bytesEqual_any a b c d x.hd y.hd _ (ha.below B0) (hb.below B0))
  have HB := Hid.mk' B0
  clear ha hb B0
  cases e1 : (x.pl == y.pl) with
  | false =>
    have E : Hid (ceq x y = false) := Hid.mk' (by unfold ceq; rw [e1]; rfl)
    go_enter Try.func101, Try.ntmps101
    go_wp2_with go_big_skip
    go_ret
    exact ⟨by rw [E.out]; rfl, HB.out⟩
  | true =>
  cases e2 : (x.ct == y.ct) with
  | false =>
    have E : Hid (ceq x y = false) := Hid.mk' (by unfold ceq; rw [e2]; simp)
    go_enter Try.func101, Try.ntmps101
    go_wp2_with go_big_skip
    go_ret
    exact ⟨by rw [E.out]; rfl, HB.out⟩
  | true =>
    have E : Hid (ceq x y = ((strI x.hd).toList == (strI y.hd).toList)) := Hid.mk' (by unfold ceq beqB; rw [e1, e2]; simp)
    go_enter Try.func101, Try.ntmps101
    go_wp2_with (first | go_big_skip | (go_at_call 81; refine KB.out.mono ?_; rintro e w9 ⟨rfl, hw9⟩; obtain rfl := hw9.symm))
    go_ret
    exact ⟨by rw [E.out]; rfl, HB.out⟩

set_option maxHeartbeats 3200000 in
theorem equalChecks_any (a b : Option Addr) (c d : Nat) (l m : List CK) (w : World) (ha : CsAt w a l) (hb : CsAt w b m) (hl : (l.length : Int) ≤ 1048576) (hm : (m.length : Int) ≤ 1048576) :
    Calls Try.prog 100 #[.slice a l.length c, .slice b m.length d, .func (.func 101) #[] #[]] w fun e w' => e = .returned (.bool (sameCs l m)) ∧ Below w.heap.size w w' := by
  have HA := Hid.mk' ha
  have HB := Hid.mk' hb
  clear ha hb
  by_cases hq : l.length = m.length
  rotate_left
  · have E : Hid (sameCs l m = false) := Hid.mk' (by unfold sameCs; rw [decide_eq_false hq]; rfl)
    have hq' : ¬ (l.length : Int) = m.length := by omega
    go_enter Try.func100, Try.ntmps100
    go_wp2
    go_ret
    exact ⟨by rw [E.out]; rfl, Below.refl _ _⟩
  have Q := Hid.mk' hq
  have hq' : (l.length : Int) = m.length := by omega
  clear hq
  go_enter Try.func100, Try.ntmps100
  go_wp2
  go_loopw [17] (fun i wr => ∃ k : Nat, k ≤ l.length ∧ i = .int .i64 k ∧ (∀ j, j < k → ceq (ckK l j) (ckK m j) = true) ∧ Below w.heap.size w wr) (fun i _ => l.length - (intOf i).toNat)
  case atStart => exact ⟨0, Nat.zero_le _, rfl, fun j h => absurd h (Nat.not_lt_zero _), Below.refl _ _⟩
  case round =>
    obtain ⟨k, hk, rfl, hn, hbl⟩ := hrel
    have HN := Hid.mk' hn
    have R2 := Hid.mk' hbl
    by_cases hlt : k < l.length
    · have ci : (k : Int) < (l.length : Int) := by omega
      have ci2 : (k : Int) < (m.length : Int) := by omega
      rcases HA.out.below hbl with ha | ⟨b1, o1, rfl, s1, hc1⟩
      · exact absurd hlt (by rw [ha]; exact Nat.not_lt_zero _)
      rcases HB.out.below hbl with hb | ⟨b2, o2, rfl, s2, hc2⟩
      · exact absurd hlt (by rw [Q.out, hb]; exact Nat.not_lt_zero _)
      obtain ⟨x0, x1, p1, d1, x4, x3⟩ := hc1 k hlt
      obtain ⟨y0, y1, p2_, d2, y4, y3⟩ := hc2 k (by omega)
      have B0 := ((Below.refl wr.heap.size wr).alloc (Nat.le_refl _) (.cells #[.int .i64 (ckK l k).pl, .int .i64 (ckK l k).ct, .slice p1 (ckK l k).hd.length d1] 141)).alloc (by simp) (.cells #[.int .i64 (ckK m k).pl, .int .i64 (ckK m k).ct, .slice p2_ (ckK m k).hd.length d2] 141)
      have KE := Hid.mk' (sameCheck_any (ckK l k) (ckK m k) p1 p2_ d1 d2 _ (x3.below B0) (y3.below B0))
      have R3 := Hid.mk' (R2.out.trans (B0.mono R2.out.size))
      clear hbl hc1 hc2 hn x3 y3 B0
      cases e1 : ceq (ckK l k) (ckK m k) with
      | false =>
        rw [e1] at KE
        have E : Hid (sameCs l m = false) := Hid.mk' (by unfold sameCs; rw [decide_eq_true Q.out, allK_false hlt e1]; rfl)
        go_wp2_with fail
        refine KE.out.mono ?_
        rintro e w1 ⟨rfl, hb1⟩
        have R4 := Hid.mk' (R3.out.trans (hb1.mono R3.out.size))
        clear hb1 KE
        go_wp2
        go_ret
        exact ⟨by rw [E.out]; rfl, R4.out⟩
      | true =>
        rw [e1] at KE
        go_wp2_with fail
        refine KE.out.mono ?_
        rintro e w1 ⟨rfl, hb1⟩
        have R4 := Hid.mk' (R3.out.trans (hb1.mono R3.out.size))
        clear hb1 KE
        go_wp2
        go_roundw
        case rel => exact ⟨k + 1, by omega, by go_num, fun j hj => by
          by_cases h : j = k
          · subst h; exact e1
          · exact HN.out j (by omega), R4.out⟩
        case measure => simp [intOf]; omega
    · have ci : ¬ (k : Int) < (l.length : Int) := by omega
      have e : k = l.length := by omega
      subst e
      have E : Hid (sameCs l m = true) := Hid.mk' (by unfold sameCs; rw [decide_eq_true Q.out, allK_true HN.out]; rfl)
      go_wp2
      go_ret
      exact ⟨by rw [E.out]; rfl, R2.out⟩


set_option maxHeartbeats 3200000 in
theorem eqMemo_any (m : ME) (a t u c a2 t2 u2 c2 : Option Addr) (ca ct cu cc da dt du dc : Nat) (w : World) (h1 : MAt w a t u c m) (h2 : MAt w a2 t2 u2 c2 m) (hl : (msz m : Int) ≤ 1048576) :
    Calls Try.prog 56 #[.agg #[.slice a m.dt.length ca, .int .i64 m.st, .slice t m.tk.length ct, .slice u m.hd.length cu, .slice c m.cs.length cc], .agg #[.slice a2 m.dt.length da, .int .i64 m.st, .slice t2 m.tk.length dt, .slice u2 m.hd.length du, .slice c2 m.cs.length dc]] w fun e w' => e = .returned (.bool true) ∧ Below w.heap.size w w' := by
  have MS : (msz m : Int) = m.dt.length + m.tk.length + tssz m.tk + m.hd.length + m.cs.length + csz m.cs := by unfold msz; omega
  have s1 : (m.dt.length : Int) ≤ 1048576 := by omega
  have s2 : (m.tk.length : Int) + tssz m.tk ≤ 1048576 := by omega
  have s3 : (m.hd.length : Int) ≤ 1048576 := by omega
  have s4 : (m.cs.length : Int) + csz m.cs ≤ 1048576 := by omega
  have HS := Hid.mk' (M2.start (ca := ca) (ct := ct) (cu := cu) (cc := cc) (da := da) (dt := dt) (du := du) (dc := dc) h1 h2)
  clear MS hl h1 h2
  generalize hW : (w.alloc (.cells #[.slice a m.dt.length ca, .int .i64 m.st, .slice t m.tk.length ct, .slice u m.hd.length cu, .slice c m.cs.length cc] 68)).alloc (.cells #[.slice a2 m.dt.length da, .int .i64 m.st, .slice t2 m.tk.length dt, .slice u2 m.hd.length du, .slice c2 m.cs.length dc] 68) = W at *
  have K1 := Hid.mk' (eqByteS_any a a2 ca da m.dt W HS.out.m1.1 HS.out.m2.1 s1)
  obtain ⟨x0, x1, x2, x3, x4, x5⟩ := cells5 HS.out.r1
  obtain ⟨y0, y1, y2, y3, y4, y5⟩ := cells5 HS.out.r2
  go_enter Try.func56, Try.ntmps56
  go_wp2_with fail
  clear hW x0 x1 x2 x3 x4 x5 y0 y1 y2 y3 y4 y5
  refine K1.out.mono ?_
  rintro e w1 ⟨rfl, hb⟩
  have HS := Hid.mk' (HS.out.below hb)
  clear hb K1
  have K2 := Hid.mk' (eqTokenS_any t t2 ct dt m.tk w1 HS.out.m1.2.1 HS.out.m2.2.1 s2)
  obtain ⟨x0, x1, x2, x3, x4, x5⟩ := cells5 HS.out.r1
  obtain ⟨y0, y1, y2, y3, y4, y5⟩ := cells5 HS.out.r2
  go_wp2_with fail
  clear x0 x1 x2 x3 x4 x5 y0 y1 y2 y3 y4 y5
  refine K2.out.mono ?_
  rintro e w2 ⟨rfl, hb⟩
  have HS := Hid.mk' (HS.out.below hb)
  clear hb K2
  have K3 := Hid.mk' (eqByteS_any u u2 cu du m.hd w2 HS.out.m1.2.2.1 HS.out.m2.2.2.1 s3)
  obtain ⟨x0, x1, x2, x3, x4, x5⟩ := cells5 HS.out.r1
  obtain ⟨y0, y1, y2, y3, y4, y5⟩ := cells5 HS.out.r2
  go_wp2_with fail
  clear x0 x1 x2 x3 x4 x5 y0 y1 y2 y3 y4 y5
  refine K3.out.mono ?_
  rintro e w3 ⟨rfl, hb⟩
  have HS := Hid.mk' (HS.out.below hb)
  clear hb K3
  have K4 := Hid.mk' (eqCheckS_any c c2 cc dc m.cs w3 HS.out.m1.2.2.2 HS.out.m2.2.2.2 s4)
  obtain ⟨x0, x1, x2, x3, x4, x5⟩ := cells5 HS.out.r1
  obtain ⟨y0, y1, y2, y3, y4, y5⟩ := cells5 HS.out.r2
  go_wp2_with fail
  clear x0 x1 x2 x3 x4 x5 y0 y1 y2 y3 y4 y5
  refine K4.out.mono ?_
  rintro e w4 ⟨rfl, hb⟩
  have HS := Hid.mk' (HS.out.below hb)
  clear hb K4
  go_wp2
  go_ret
  exact ⟨rfl, HS.out.bl⟩

set_option maxHeartbeats 3200000 in
theorem sameReading_any (m n : ME) (a t u c a2 t2 u2 c2 : Option Addr) (ca ct cu cc da dt du dc : Nat) (w : World) (h1 : MAt w a t u c m) (h2 : MAt w a2 t2 u2 c2 n) (hl : (msz m : Int) ≤ 1048576) (hm : (msz n : Int) ≤ 1048576) :
    Calls Try.prog 83 #[.agg #[.slice a m.dt.length ca, .int .i64 m.st, .slice t m.tk.length ct, .slice u m.hd.length cu, .slice c m.cs.length cc], .agg #[.slice a2 n.dt.length da, .int .i64 n.st, .slice t2 n.tk.length dt, .slice u2 n.hd.length du, .slice c2 n.cs.length dc]] w fun e w' => e = .returned (.bool (sameR m n)) ∧ Below w.heap.size w w' := by
  have MS : (msz m : Int) = m.dt.length + m.tk.length + tssz m.tk + m.hd.length + m.cs.length + csz m.cs := by unfold msz; omega
  have NS : (msz n : Int) = n.dt.length + n.tk.length + tssz n.tk + n.hd.length + n.cs.length + csz n.cs := by unfold msz; omega
  have s1 : (m.tk.length : Int) + tssz m.tk ≤ 1048576 := by omega
  have s2 : (n.tk.length : Int) + tssz n.tk ≤ 1048576 := by omega
  have s3 : (m.cs.length : Int) ≤ 1048576 := by omega
  have s4 : (n.cs.length : Int) ≤ 1048576 := by omega
  have HS := Hid.mk' (M2.start (ca := ca) (ct := ct) (cu := cu) (cc := cc) (da := da) (dt := dt) (du := du) (dc := dc) h1 h2)
  clear MS NS hl hm
  generalize hW : (w.alloc (.cells #[.slice a m.dt.length ca, .int .i64 m.st, .slice t m.tk.length ct, .slice u m.hd.length cu, .slice c m.cs.length cc] 68)).alloc (.cells #[.slice a2 n.dt.length da, .int .i64 n.st, .slice t2 n.tk.length dt, .slice u2 n.hd.length du, .slice c2 n.cs.length dc] 68) = W at *
  have E : Hid (sameR m n = (sameTs m.tk n.tk && (beqB m.hd n.hd && sameCs m.cs n.cs))) := Hid.mk' rfl
  have KT := Hid.mk' (implSameT_any t t2 ct dt m.tk n.tk W HS.out.m1.2.1 HS.out.m2.2.1 s1 s2)
  clear h1 h2
  obtain ⟨x0, x1, x2, x3, x4, x5⟩ := cells5 HS.out.r1
  obtain ⟨y0, y1, y2, y3, y4, y5⟩ := cells5 HS.out.r2
  generalize hS : sameTs m.tk n.tk = S at *
  cases S with
  | false =>
    go_enter Try.func83, Try.ntmps83
    go_wp2_with fail
    clear hW
    refine KT.out.mono ?_
    rintro e w1 ⟨rfl, hb⟩
    have HB := Hid.mk' (HS.out.below hb).bl
    clear hb KT
    go_wp2_with (first | go_big_skip)
    go_ret
    exact ⟨by rw [E.out]; rfl, HB.out⟩
  | true =>
  go_enter Try.func83, Try.ntmps83
  go_wp2_with fail
  clear hW x0 x1 x2 x3 x4 x5 y0 y1 y2 y3 y4 y5
  refine KT.out.mono ?_
  rintro e w1 ⟨rfl, hb⟩
  have HS := Hid.mk' (HS.out.below hb)
  clear hb KT
  have KB := Hid.mk' (bytesEqual_any u u2 cu du m.hd n.hd w1 HS.out.m1.2.2.1 HS.out.m2.2.2.1)
  have KC := Hid.mk' (equalChecks_any c c2 cc dc m.cs n.cs w1 HS.out.m1.2.2.2 HS.out.m2.2.2.2 s3 s4)
  have E2 : Hid (beqB m.hd n.hd = ((strI m.hd).toList == (strI n.hd).toList)) := Hid.mk' rfl
  obtain ⟨x0, x1, x2, x3, x4, x5⟩ := cells5 HS.out.r1
  obtain ⟨y0, y1, y2, y3, y4, y5⟩ := cells5 HS.out.r2
  cases hB : ((strI m.hd).toList == (strI n.hd).toList) with
  | false =>
    rw [hB] at KB
    go_wp2_with (first | go_big_skip | (go_at_call 81; refine KB.out.mono ?_; rintro e w9 ⟨rfl, hw9⟩; obtain rfl := hw9.symm))
    go_ret
    exact ⟨by rw [E.out, E2.out, hB]; rfl, HS.out.bl⟩
  | true =>
    rw [hB] at KB
    go_wp2_with (first | go_big_skip | (go_at_call 81; refine KB.out.mono ?_; rintro e w9 ⟨rfl, hw9⟩; obtain rfl := hw9.symm) | fail)
    refine KC.out.mono ?_
    rintro e w2 ⟨rfl, hb⟩
    have HB := Hid.mk' (HS.out.below hb).bl
    clear hb KC
    go_wp2_with (first | go_big_skip)
    go_ret
    exact ⟨by rw [E.out, E2.out, hB]; first | rfl | simp, HB.out⟩

set_option maxHeartbeats 3200000 in
theorem implSM_any (m n : ME) (a t u c a2 t2 u2 c2 : Option Addr) (ca ct cu cc da dt du dc : Nat) (w : World) (h1 : MAt w a t u c m) (h2 : MAt w a2 t2 u2 c2 n) (hl : (msz m : Int) ≤ 1048576) (hm : (msz n : Int) ≤ 1048576) :
    Calls Try.prog 53 #[.agg #[.slice a m.dt.length ca, .int .i64 m.st, .slice t m.tk.length ct, .slice u m.hd.length cu, .slice c m.cs.length cc], .agg #[.slice a2 n.dt.length da, .int .i64 n.st, .slice t2 n.tk.length dt, .slice u2 n.hd.length du, .slice c2 n.cs.length dc]] w fun e w' => e = .returned (.bool (sameM m n)) ∧ Below w.heap.size w w' := by
  have KR : Hid (∀ v, MAt v a t u c m → MAt v a2 t2 u2 c2 n → Calls Try.prog 83 #[.agg #[.slice a m.dt.length ca, .int .i64 m.st, .slice t m.tk.length ct, .slice u m.hd.length cu, .slice c m.cs.length cc], .agg #[.slice a2 n.dt.length da, .int .i64 n.st, .slice t2 n.tk.length dt, .slice u2 n.hd.length du, .slice c2 n.cs.length dc]] v fun e w' => e = .returned (.bool (sameR m n)) ∧ Below v.heap.size v w') := Hid.mk' (fun v x y => sameReading_any m n a t u c a2 t2 u2 c2 ca ct cu cc da dt du dc v x y hl hm)
  have MS : (msz m : Int) = m.dt.length + m.tk.length + tssz m.tk + m.hd.length + m.cs.length + csz m.cs := by unfold msz; omega
  have NS : (msz n : Int) = n.dt.length + n.tk.length + tssz n.tk + n.hd.length + n.cs.length + csz n.cs := by unfold msz; omega
  have s1 : (m.tk.length : Int) + tssz m.tk ≤ 1048576 := by omega
  have s2 : (n.tk.length : Int) + tssz n.tk ≤ 1048576 := by omega
  have s3 : (m.cs.length : Int) ≤ 1048576 := by omega
  have s4 : (n.cs.length : Int) ≤ 1048576 := by omega
  have HS := Hid.mk' (M2.start (ca := ca) (ct := ct) (cu := cu) (cc := cc) (da := da) (dt := dt) (du := du) (dc := dc) h1 h2)
  clear MS NS hl hm
  generalize hW : (w.alloc (.cells #[.slice a m.dt.length ca, .int .i64 m.st, .slice t m.tk.length ct, .slice u m.hd.length cu, .slice c m.cs.length cc] 68)).alloc (.cells #[.slice a2 n.dt.length da, .int .i64 n.st, .slice t2 n.tk.length dt, .slice u2 n.hd.length du, .slice c2 n.cs.length dc] 68) = W at *
  have E : Hid (sameM m n = (((strI m.dt).toList == (strI n.dt).toList) && ((m.st == n.st) && sameR m n))) := Hid.mk' rfl
  have KB := Hid.mk' (bytesEqual_any a a2 ca da m.dt n.dt W HS.out.m1.1 HS.out.m2.1)
  have KR := Hid.mk' (KR.out W HS.out.m1 HS.out.m2)
  clear h1 h2
  obtain ⟨x0, x1, x2, x3, x4, x5⟩ := cells5 HS.out.r1
  obtain ⟨y0, y1, y2, y3, y4, y5⟩ := cells5 HS.out.r2
  cases hB : ((strI m.dt).toList == (strI n.dt).toList) with
  | false =>
    rw [hB] at KB
    go_enter Try.func53, Try.ntmps53
    go_wp2_with (first | go_big_skip | (go_at_call 81; refine KB.out.mono ?_; rintro e w9 ⟨rfl, hw9⟩; obtain rfl := hw9.symm))
    clear hW
    go_ret
    exact ⟨by rw [E.out, hB]; rfl, HS.out.bl⟩
  | true =>
  rw [hB] at KB
  cases hq : (m.st == n.st) with
  | false =>
    go_enter Try.func53, Try.ntmps53
    go_wp2_with (first | go_big_skip | (go_at_call 81; refine KB.out.mono ?_; rintro e w9 ⟨rfl, hw9⟩; obtain rfl := hw9.symm))
    clear hW
    go_ret
    exact ⟨by rw [E.out, hB, hq]; rfl, HS.out.bl⟩
  | true =>
    generalize hR : sameR m n = R at *
    go_enter Try.func53, Try.ntmps53
    go_wp2_with (first | go_big_skip | (go_at_call 81; refine KB.out.mono ?_; rintro e w9 ⟨rfl, hw9⟩; obtain rfl := hw9.symm) | fail)
    clear hW
    refine KR.out.mono ?_
    rintro e w2 ⟨rfl, hb⟩
    have HB := Hid.mk' (HS.out.below hb).bl
    clear hb KR
    go_wp2_with (first | go_big_skip)
    go_ret
    exact ⟨by rw [E.out, hB, hq]; first | rfl | simp, HB.out⟩

theorem toMemo_any (m : ME) (a t u c : Option Addr) (ca ct cu cc : Nat) (w : World) (hm : MAt w a t u c m) (hl : (msz m : Int) ≤ 1048576) :
    Calls Try.prog 50 #[.agg #[.slice a m.dt.length ca, .int .i64 m.st, .slice t m.tk.length ct, .slice u m.hd.length cu, .slice c m.cs.length cc]] w fun e w' => ∃ gd gt gh gc, e = .returned (.agg #[.slice (some ⟨gd, 0, none⟩) m.dt.length m.dt.length, .int .i64 m.st, .slice (some ⟨gt, 0, none⟩) m.tk.length m.tk.length, .slice (some ⟨gh, 0, none⟩) m.hd.length m.hd.length, .slice (some ⟨gc, 0, none⟩) m.cs.length m.cs.length]) ∧ MAt w' (some ⟨gd, 0, none⟩) (some ⟨gt, 0, none⟩) (some ⟨gh, 0, none⟩) (some ⟨gc, 0, none⟩) m ∧ Below w.heap.size w w' := by
  have MS : (msz m : Int) = m.dt.length + m.tk.length + tssz m.tk + m.hd.length + m.cs.length + csz m.cs := by unfold msz; omega
  refine (toMemo_gen (fun wa wb => TR wa m.tk m.tk.length wb) m a t u c ca ct cu cc w hm hl (fun v hv => (toTokenS_any t ct m.tk v hv (by omega)).mono ?_)).mono ?_
  · rintro e v' ⟨rfl, h⟩
    exact ⟨rfl, h, h.bl⟩
  · rintro e w' ⟨gd, gt, gh, gc, rfl, h, hb⟩
    exact ⟨gd, gt, gh, gc, rfl, h.at, hb⟩

end Go.Proofs.Ytbdjppiagjhfmaa
