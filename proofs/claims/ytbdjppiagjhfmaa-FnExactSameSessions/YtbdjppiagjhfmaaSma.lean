/- Walks: two tables held against one another, both sides. -/
import Derived.Test.YtbdjppiagjhfmaaLtf
import Derived.Test.YtbdjppiagjhfmaaTt
import Derived.Laws.BytesString
import Derived.Laws.IdiomStrings
namespace Go.Proofs.Ytbdjppiagjhfmaa
open Go.RowKit
set_option linter.unusedVariables false
set_option maxRecDepth 100000

theorem guard57 : Try.prog.eqGuardType Try.prog.depth 116 = false := by kernel_rfl
theorem neq57 (d1 f1 : Bool) (d2 d3 f2 f3 : Int) (w : World) : (binOp .neq 116 (.agg #[.bool d1, .int .i64 d2, .int .i64 d3]) (.agg #[.bool f1, .int .i64 f2, .int .i64 f3])).run Try.prog w = .ok (.bool (!(d1 == f1 && d2 == f2 && d3 == f3))) w := by
  have u2 := Try.underlying2
  have u4 := Try.underlying4
  have a2 := Try.isAgg2
  have a4 := Try.isAgg4
  have z2 := Try.sizeOf2
  have z4 := Try.sizeOf4
  have hS : Try.prog.underlying 116 = some (.struct (Try.prog.fieldsOf 116)) := by kernel_rfl
  have hp : Try.prog.stoodInHeld 116 = false := by kernel_rfl
  rw [run_neq_struct, show (10000 : Nat) = 9999 + 1 from rfl, run_equalIn_agg w 9999 116 _ _ hS hp]
  simp only [Program.fieldsOf, Try.underlying116]
  go_simp
  by_cases h1 : d1 = f1 <;> by_cases h2 : d2 = f2 <;> by_cases h3 : d3 = f3 <;> simp [h1, h2, h3]

def peq (p q : PC) : Bool := (p.ad == q.ad) && (p.fr == q.fr) && (p.sz == q.sz)
def samePcs : List PC → List PC → Bool
  | [], [] => true
  | p :: r, q :: s => peq p q && samePcs r s
  | _, _ => false

theorem samePcs_len : ∀ (l m : List PC), ¬ l.length = m.length → samePcs l m = false
  | [], [], h => absurd rfl h
  | [], _ :: _, _ => rfl
  | _ :: _, [], _ => rfl
  | p :: r, q :: s, h => by simp only [samePcs, samePcs_len r s (by simpa using h), Bool.and_false]
theorem samePcs_all : ∀ (l m : List PC), l.length = m.length → (∀ k, k < l.length → peq (pc l k) (pc m k) = true) → samePcs l m = true
  | [], [], _, _ => rfl
  | [], _ :: _, h, _ => by cases h
  | _ :: _, [], h, _ => by cases h
  | p :: r, q :: s, h, hk => by
    have h0 : peq p q = true := hk 0 (by simp)
    simp only [samePcs, h0, Bool.true_and]
    exact samePcs_all r s (by simpa using h) (fun k hl => hk (k + 1) (by simpa using hl))
theorem samePcs_not : ∀ (l m : List PC) (k : Nat), k < l.length → peq (pc l k) (pc m k) = false → l.length = m.length → samePcs l m = false
  | [], _, _, h, _, _ => by cases h
  | _ :: _, [], _, _, _, h => by cases h
  | p :: r, q :: s, 0, _, h, _ => by
    have h0 : peq p q = false := h
    simp only [samePcs, h0, Bool.false_and]
  | p :: r, q :: s, k + 1, hk, h, hl => by
    simp only [samePcs, samePcs_not r s k (by simpa using hk) h (by simpa using hl), Bool.and_false]

def sameT (t u : TB) : Bool := ((strI t.base).toList == (strI u.base).toList) && ((strI t.more).toList == (strI u.more).toList) && samePcs t.pcs u.pcs

set_option maxHeartbeats 800000 in
theorem slicesEqual_any (a b : Option Addr) (c d : Nat) (l m : List PC) (w : World) (h1 : PAt w a l) (h2 : PAt w b m) (hl : (l.length : Int) ≤ 1048576) (hm : (m.length : Int) ≤ 1048576) :
    Calls Try.prog 82 #[.slice a l.length c, .slice b m.length d] w fun e w' => e = .returned (.bool (samePcs l m)) ∧ Below w.heap.size w w' := by
  by_cases hq : l.length = m.length
  · have hq' : (l.length : Int) = m.length := by omega
    have Q := Hid.mk' hq
    go_enter Try.func82, Try.ntmps82
    go_wp2
    go_loopw [13] (fun i wr => ∃ k : Nat, k ≤ l.length ∧ i = .int .i64 k ∧ (∀ j, j < k → peq (pc l j) (pc m j) = true) ∧ Below w.heap.size w wr) (fun i _ => l.length - (intOf i).toNat)
    case atStart => exact ⟨0, Nat.zero_le _, rfl, fun j h => absurd h (Nat.not_lt_zero _), Below.refl _ _⟩
    case round =>
      obtain ⟨k, hk, rfl, hn, hbl⟩ := hrel
      have HN := Hid.mk' hn
      clear hn
      by_cases hlt : k < l.length
      · rcases h1 with h1 | ⟨b1, o1, rfl, hbs1, hc1⟩
        · exact absurd hlt (by rw [h1]; exact Nat.not_lt_zero _)
        rcases h2 with h2 | ⟨b2, o2, rfl, hbs2, hc2⟩
        · exact absurd hlt (by rw [hq, h2]; exact Nat.not_lt_zero _)
        obtain ⟨x1, x2, x3⟩ := hc1 k hlt
        obtain ⟨y1, y2, y3⟩ := hc2 k (by omega)
        rw [← hbl.cell (p := ⟨b1, _, none⟩) hbs1] at x1 x2 x3
        rw [← hbl.cell (p := ⟨b2, _, none⟩) hbs2] at y1 y2 y3
        have hlt2 : k < m.length := by omega
        have R2 := Hid.mk' hbl
        have P0 : Hid (peq (pc l k) (pc m k) = ((pc l k).ad == (pc m k).ad && (pc l k).fr == (pc m k).fr && (pc l k).sz == (pc m k).sz)) := rfl
        clear hbl hc1 hc2
        generalize (pc l k).ad = d1 at *
        generalize (pc l k).fr = d2 at *
        generalize (pc l k).sz = d3 at *
        generalize (pc m k).ad = f1 at *
        generalize (pc m k).fr = f2 at *
        generalize (pc m k).sz = f3 at *
        have ne := neq57 d1 f1 d2 d3 f2 f3
        have gd := guard57
        generalize (d1 == f1 && d2 == f2 && d3 == f3) = r at *
        cases r
        · go_wp2
          go_quiet (fail)
          go_wp2
          go_ret
          rw [samePcs_not l m k hlt P0.out Q.out]
          exact ⟨rfl, below_drewN R2.out _⟩
        · go_wp2
          go_quiet (fail)
          go_wp2
          go_roundw
          case rel =>
            refine ⟨k + 1, by omega, by go_num, fun j hj => ?_, below_drewN R2.out _⟩
            by_cases e : j = k
            · subst e; exact P0.out
            · exact HN.out j (by omega)
          case measure => simp [intOf]; omega
      · go_wp2
        go_ret
        have e : k = l.length := by omega
        subst e
        rw [samePcs_all l m Q.out HN.out]
        exact ⟨rfl, hbl⟩
  · rw [samePcs_len l m hq]
    have hq' : ¬ (l.length : Int) = m.length := by omega
    clear h1 h2
    go_enter Try.func82, Try.ntmps82
    go_wp2
    go_ret
    exact ⟨rfl, Below.refl _ _⟩

set_option maxHeartbeats 800000 in
theorem implSameTb_any (v u : Value) (t s : TB) (w : World) (ht : TAt w v t) (hs : TAt w u s) (hl : (t.base.length : Int) + t.more.length + t.pcs.length ≤ 1048576) (hm : (s.base.length : Int) + s.more.length + s.pcs.length ≤ 1048576) :
    Calls Try.prog 52 #[v, u] w fun e w' => e = .returned (.bool (sameT t s)) ∧ Below w.heap.size w w' := by
  obtain ⟨a1, a2, a3, c1, c2, c3, rfl, h1, h2, h3⟩ := ht
  obtain ⟨b1, b2, b3, d1, d2, d3, rfl, k1, k2, k3⟩ := hs
  have B0 := ((Below.refl w.heap.size w).alloc (Nat.le_refl _) (.cells #[.slice a1 t.base.length c1, .slice a2 t.more.length c2, .slice a3 t.pcs.length c3] 64)).alloc (by simp) (.cells #[.slice b1 s.base.length d1, .slice b2 s.more.length d2, .slice b3 s.pcs.length d3] 64)
  have E1 := Hid.mk' (bytesEqual_any a1 b1 c1 d1 t.base s.base _ (h1.below B0) (k1.below B0))
  have E2 := Hid.mk' (bytesEqual_any a2 b2 c2 d2 t.more s.more _ (h2.below B0) (k2.below B0))
  have E3 := Hid.mk' (slicesEqual_any a3 b3 c3 d3 t.pcs s.pcs _ (h3.below B0) (k3.below B0) (by omega) (by omega))
  have BB := Hid.mk' B0
  have Z : Hid (sameT t s = (((strI t.base).toList == (strI s.base).toList) && ((strI t.more).toList == (strI s.more).toList) && samePcs t.pcs s.pcs)) := rfl
  generalize ((strI t.base).toList == (strI s.base).toList) = r1 at *
  generalize ((strI t.more).toList == (strI s.more).toList) = r2 at *
  clear h1 h2 h3 k1 k2 k3 B0
  cases r1
  · go_enter Try.func52, Try.ntmps52
    go_wp2_with fail
    refine E1.out.mono ?_
    rintro e w1 ⟨rfl, rfl⟩
    go_wp2
    go_ret
    rw [Z.out]
    exact ⟨rfl, BB.out⟩
  · cases r2
    · go_enter Try.func52, Try.ntmps52
      go_wp2_with fail
      refine E1.out.mono ?_
      rintro e w1 ⟨rfl, rfl⟩
      go_wp2_with fail
      refine E2.out.mono ?_
      rintro e w1 ⟨rfl, rfl⟩
      go_wp2
      go_ret
      rw [Z.out]
      exact ⟨rfl, BB.out⟩
    · go_enter Try.func52, Try.ntmps52
      go_wp2_with fail
      refine E1.out.mono ?_
      rintro e w1 ⟨rfl, rfl⟩
      go_wp2_with fail
      refine E2.out.mono ?_
      rintro e w1 ⟨rfl, rfl⟩
      go_wp2_with fail
      refine E3.out.mono ?_
      rintro e w1 ⟨rfl, hb⟩
      have B1 := Hid.mk' (BB.out.trans (hb.mono (by simp; omega)))
      clear hb
      go_wp2
      go_ret
      rw [Z.out]
      exact ⟨rfl, B1.out⟩

set_option maxHeartbeats 1600000 in
theorem specSameTb_any (v u : Value) (t s : TB) (w : World) (ht : TAt w v t) (hs : TAt w u s) (hl : (t.base.length : Int) + t.more.length + t.pcs.length ≤ 1048576) (hm : (s.base.length : Int) + s.more.length + s.pcs.length ≤ 1048576) :
    Calls Try.prog 47 #[v, u] w fun e w' => e = .returned (.bool (sameT t s)) ∧ Below w.heap.size w w' := by
  obtain ⟨a1, a2, a3, c1, c2, c3, rfl, h1, h2, h3⟩ := ht
  obtain ⟨b1, b2, b3, d1, d2, d3, rfl, k1, k2, k3⟩ := hs
  have B0 := ((Below.refl w.heap.size w).alloc (Nat.le_refl _) (.cells #[.slice a1 t.base.length c1, .slice a2 t.more.length c2, .slice a3 t.pcs.length c3] 64)).alloc (by simp) (.cells #[.slice b1 s.base.length d1, .slice b2 s.more.length d2, .slice b3 s.pcs.length d3] 64)
  have x1 := conv_bytesT c1 (h1.below B0)
  have x2 := conv_bytesT d1 (k1.below B0)
  have y1 := conv_bytesT c2 (h2.below B0)
  have y2 := conv_bytesT d2 (k2.below B0)
  have P1 := Hid.mk' (h3.below B0)
  have P2 := Hid.mk' (k3.below B0)
  have R1 := (row3 w 64 (.slice a1 t.base.length c1) (.slice a2 t.more.length c2) (.slice a3 t.pcs.length c3)).alloc (.cells #[.slice b1 s.base.length d1, .slice b2 s.more.length d2, .slice b3 s.pcs.length d3] 64)
  have R2 := row3 (w.alloc (.cells #[.slice a1 t.base.length c1, .slice a2 t.more.length c2, .slice a3 t.pcs.length c3] 64)) 64 (.slice b1 s.base.length d1) (.slice b2 s.more.length d2) (.slice b3 s.pcs.length d3)
  rw [show (w.alloc (.cells #[.slice a1 t.base.length c1, .slice a2 t.more.length c2, .slice a3 t.pcs.length c3] 64)).heap.size = w.heap.size + 1 from by simp] at R2
  have BB := Hid.mk' B0
  have Z : Hid (sameT t s = (((strI t.base).toList == (strI s.base).toList) && ((strI t.more).toList == (strI s.more).toList) && samePcs t.pcs s.pcs)) := rfl
  generalize strI t.base = s1 at *
  generalize strI s.base = s2 at *
  generalize strI t.more = s3 at *
  generalize strI s.more = s4 at *
  obtain ⟨e0, e1, e2, e3⟩ := cells3 R1
  obtain ⟨f0, f1, f2, f3⟩ := cells3 R2
  clear h1 h2 h3 k1 k2 k3 B0 R1 R2
  generalize hw0 : (w.alloc (.cells #[.slice a1 t.base.length c1, .slice a2 t.more.length c2, .slice a3 t.pcs.length c3] 64)).alloc (.cells #[.slice b1 s.base.length d1, .slice b2 s.more.length d2, .slice b3 s.pcs.length d3] 64) = w0 at *
  cases q1 : (s1.toList == s2.toList)
  · go_enter Try.func47, Try.ntmps47
    go_wp2
    go_ret
    rw [Z.out, q1]
    exact ⟨rfl, BB.out⟩
  cases q2 : (s3.toList == s4.toList)
  · go_enter Try.func47, Try.ntmps47
    go_wp2
    go_ret
    rw [Z.out, q1, q2]
    exact ⟨rfl, BB.out⟩
  by_cases hq : t.pcs.length = s.pcs.length
  · obtain ⟨n, hn1, hn2⟩ : ∃ n, t.pcs.length = n ∧ s.pcs.length = n := ⟨_, hq, rfl⟩
    have hn : (n : Int) ≤ 1048576 := by omega
    rw [hn1] at hw0 e2 ⊢
    rw [hn2] at hw0 f2 ⊢
    have Q := Hid.mk' hq
    have N1 := Hid.mk' hn1
    have N2 := Hid.mk' hn2
    have Z' : Hid (sameT t s = samePcs t.pcs s.pcs) := by rw [Z.out, q1, q2]; rfl
    clear hq hn1 hn2 hl hm Z
    go_enter Try.func47, Try.ntmps47
    go_wp2
    clear x1 x2 y1 y2 q1 q2 hw0
    go_loopw [5] (fun i wr => ∃ k : Nat, k ≤ n ∧ i = .int .i64 k ∧ (∀ j, j < k → peq (pc t.pcs j) (pc s.pcs j) = true) ∧ Below w0.heap.size w0 wr) (fun i _ => n - (intOf i).toNat)
    case atStart => exact ⟨0, Nat.zero_le _, rfl, fun j h => absurd h (Nat.not_lt_zero _), Below.refl _ _⟩
    case round =>
      obtain ⟨k, hk, rfl, hnn, hbl⟩ := hrel
      have HN := Hid.mk' hnn
      clear hnn
      rw [← hbl.cell (p := ⟨w.heap.size, _, none⟩) e3] at e2
      rw [← hbl.cell (p := ⟨w.heap.size + 1, _, none⟩) f3] at f2
      by_cases hlt : k < n
      · rcases P1 with h1 | ⟨b1', o1, rfl, hbs1, hc1⟩
        · exact absurd hlt (by rw [← N1.out, h1]; exact Nat.not_lt_zero _)
        rcases P2 with h2 | ⟨b2', o2, rfl, hbs2, hc2⟩
        · exact absurd hlt (by rw [← N2.out, h2]; exact Nat.not_lt_zero _)
        obtain ⟨x1, x2, x3⟩ := hc1 k (by rw [N1.out]; exact hlt)
        obtain ⟨y1, y2, y3⟩ := hc2 k (by rw [N2.out]; exact hlt)
        rw [← hbl.cell (p := ⟨b1', _, none⟩) hbs1] at x1 x2 x3
        rw [← hbl.cell (p := ⟨b2', _, none⟩) hbs2] at y1 y2 y3
        have R2 := Hid.mk' hbl
        have P0 : Hid (peq (pc t.pcs k) (pc s.pcs k) = ((pc t.pcs k).ad == (pc s.pcs k).ad && (pc t.pcs k).fr == (pc s.pcs k).fr && (pc t.pcs k).sz == (pc s.pcs k).sz)) := rfl
        clear hbl hc1 hc2 e0 e1 f0 f1
        generalize (pc t.pcs k).ad = d1 at *
        generalize (pc t.pcs k).fr = d2 at *
        generalize (pc t.pcs k).sz = d3 at *
        generalize (pc s.pcs k).ad = f1 at *
        generalize (pc s.pcs k).fr = f2 at *
        generalize (pc s.pcs k).sz = f3 at *
        have ne := neq57 d1 f1 d2 d3 f2 f3
        have gd := guard57
        generalize (d1 == f1 && d2 == f2 && d3 == f3) = r at *
        cases r
        · go_wp2
          go_quiet (fail)
          go_wp2
          go_ret
          rw [Z'.out, samePcs_not _ _ k (by rw [N1.out]; exact hlt) P0.out Q.out]
          exact ⟨rfl, BB.out.trans ((below_drewN R2.out _).mono BB.out.size)⟩
        · go_wp2
          go_quiet (fail)
          go_wp2
          go_roundw
          case rel =>
            refine ⟨k + 1, by omega, by go_num, fun j hj => ?_, below_drewN R2.out _⟩
            by_cases e : j = k
            · subst e; exact P0.out
            · exact HN.out j (by omega)
          case measure => simp [intOf]; omega
      · have R2 := Hid.mk' hbl
        clear hbl e0 e1 f0 f1
        go_wp2
        go_ret
        have e : k = n := by omega
        subst e
        rw [Z'.out, samePcs_all _ _ Q.out (by rw [N1.out]; exact HN.out)]
        exact ⟨rfl, BB.out.trans (R2.out.mono BB.out.size)⟩
  · have hq' : ¬ (t.pcs.length : Int) = s.pcs.length := by omega
    have Q := Hid.mk' hq
    go_enter Try.func47, Try.ntmps47
    go_wp2
    go_ret
    rw [Z.out, q1, q2, samePcs_len _ _ Q.out]
    exact ⟨rfl, BB.out⟩
end Go.Proofs.Ytbdjppiagjhfmaa
