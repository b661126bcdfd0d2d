/- Walks: two tables held against one another, both sides. -/
import Derived.Test.YtahkneghmgmnbaaLtf
import Derived.Laws.BytesString
import Derived.Laws.IdiomStrings
namespace Go.Proofs.Ytahkneghmgmnbaa
open Go.RowKit
set_option linter.unusedVariables false

/-- The text that bytes are. -/
def strI (l : List Int) : ByteArray := l.foldl (fun r n => r.push (UInt8.ofNat n.toNat)) ByteArray.empty

theorem conv_bytesS {w : World} {a : Option Addr} {l : List Int} (c : Nat) (h : BAt w a l) : (convert 22 9 (.slice a l.length c)).run Try.prog w = .ok (.string (strI l)) w := by
  rw [run_convert_bytes_string (P := Try.prog) w 22 9 5 a l.length c Try.underlying22 Try.underlying5 Try.underlying9]
  cases a with
  | none =>
    rcases h with h | ⟨b, o, e, _⟩
    · subst h
      simp [Conv.bytesToString, strI, Sem.run_pure]
    · cases e
  | some ad =>
    refine run_bytesToString w ad l.length c l ?_
    have hk := run_loadCells_list (P := Try.prog) w ad (l.map (Value.int .u8)) (fun j v hj => by
      rcases h with h | ⟨b, o, e, _, hc⟩
      · subst h; simp at hj
      · cases e
        have hjl : j < l.length := by
          have := (List.getElem?_eq_some_iff.1 hj).1
          simpa using this
        have := hc j hjl
        rw [List.getElem?_map] at hj
        rw [show (⟨b, o, none⟩ : Addr).add j = ⟨b, o + j, none⟩ from by unfold Addr.add; split; (rename_i h0; rw [h0]; rfl); rfl, this]
        simp [bv, List.getD_eq_getElem?_getD] at hj ⊢
        obtain ⟨x, hx, rfl⟩ := hj
        simp [hx])
    simpa using hk

theorem guard57 : Try.prog.eqGuardType Try.prog.depth 72 = false := by kernel_rfl
theorem neq57 (d1 f1 : Bool) (d2 d3 f2 f3 : Int) (w : World) : (binOp .neq 72 (.agg #[.bool d1, .int .i64 d2, .int .i64 d3]) (.agg #[.bool f1, .int .i64 f2, .int .i64 f3])).run Try.prog w = .ok (.bool (!(d1 == f1 && d2 == f2 && d3 == f3))) w := by
  have u2 := Try.underlying2
  have u4 := Try.underlying4
  have a2 := Try.isAgg2
  have a4 := Try.isAgg4
  have z2 := Try.sizeOf2
  have z4 := Try.sizeOf4
  have hS : Try.prog.underlying 72 = some (.struct (Try.prog.fieldsOf 72)) := by kernel_rfl
  have hp : Try.prog.stoodInHeld 72 = false := by kernel_rfl
  rw [run_neq_struct, show (10000 : Nat) = 9999 + 1 from rfl, run_equalIn_agg w 9999 72 _ _ hS hp]
  simp only [Program.fieldsOf, Try.underlying72]
  go_simp
  by_cases h1 : d1 = f1 <;> by_cases h2 : d2 = f2 <;> by_cases h3 : d3 = f3 <;> simp [h1, h2, h3]

def peq (p q : PC) : Bool := (p.ad == q.ad) && (p.fr == q.fr) && (p.sz == q.sz)
def samePcs : List PC → List PC → Bool
  | [], [] => true
  | p :: r, q :: s => peq p q && samePcs r s
  | _, _ => false

theorem samePcs_len : ∀ (l m : List PC), ¬ l.length = m.length → samePcs l m = false
  | [], [], h => absurd rfl h
  | [], _ :: _, _ => rfl
  | _ :: _, [], _ => rfl
  | p :: r, q :: s, h => by simp only [samePcs, samePcs_len r s (by simpa using h), Bool.and_false]
theorem samePcs_all : ∀ (l m : List PC), l.length = m.length → (∀ k, k < l.length → peq (pc l k) (pc m k) = true) → samePcs l m = true
  | [], [], _, _ => rfl
  | [], _ :: _, h, _ => by cases h
  | _ :: _, [], h, _ => by cases h
  | p :: r, q :: s, h, hk => by
    have h0 : peq p q = true := hk 0 (by simp)
    simp only [samePcs, h0, Bool.true_and]
    exact samePcs_all r s (by simpa using h) (fun k hl => hk (k + 1) (by simpa using hl))
theorem samePcs_not : ∀ (l m : List PC) (k : Nat), k < l.length → peq (pc l k) (pc m k) = false → l.length = m.length → samePcs l m = false
  | [], _, _, h, _, _ => by cases h
  | _ :: _, [], _, _, _, h => by cases h
  | p :: r, q :: s, 0, _, h, _ => by
    have h0 : peq p q = false := h
    simp only [samePcs, h0, Bool.false_and]
  | p :: r, q :: s, k + 1, hk, h, hl => by
    simp only [samePcs, samePcs_not r s k (by simpa using hk) h (by simpa using hl), Bool.and_false]

def sameT (t u : TB) : Bool := ((strI t.base).toList == (strI u.base).toList) && ((strI t.more).toList == (strI u.more).toList) && samePcs t.pcs u.pcs

theorem bytesEqual_any (a b : Option Addr) (c d : Nat) (l m : List Int) (w : World) (h1 : BAt w a l) (h2 : BAt w b m) :
    Calls Try.prog 53 #[.slice a l.length c, .slice b m.length d] w fun e w' => e = .returned (.bool ((strI l).toList == (strI m).toList)) ∧ w' = w := by
  have k1 := conv_bytesS c h1
  have k2 := conv_bytesS d h2
  clear h1 h2
  go_enter Try.func53, Try.ntmps53
  go_wp2
  go_ret
  exact ⟨rfl, rfl⟩

set_option maxHeartbeats 800000 in
theorem slicesEqual_any (a b : Option Addr) (c d : Nat) (l m : List PC) (w : World) (h1 : PAt w a l) (h2 : PAt w b m) (hl : (l.length : Int) ≤ 1048576) (hm : (m.length : Int) ≤ 1048576) :
    Calls Try.prog 54 #[.slice a l.length c, .slice b m.length d] w fun e w' => e = .returned (.bool (samePcs l m)) ∧ Below w.heap.size w w' := by
  by_cases hq : l.length = m.length
  · have hq' : (l.length : Int) = m.length := by omega
    have Q := Hid.mk' hq
    go_enter Try.func54, Try.ntmps54
    go_wp2
    go_loopw [13] (fun i wr => ∃ k : Nat, k ≤ l.length ∧ i = .int .i64 k ∧ (∀ j, j < k → peq (pc l j) (pc m j) = true) ∧ Below w.heap.size w wr) (fun i _ => l.length - (intOf i).toNat)
    case atStart => exact ⟨0, Nat.zero_le _, rfl, fun j h => absurd h (Nat.not_lt_zero _), Below.refl _ _⟩
    case round =>
      obtain ⟨k, hk, rfl, hn, hbl⟩ := hrel
      have HN := Hid.mk' hn
      clear hn
      by_cases hlt : k < l.length
      · rcases h1 with h1 | ⟨b1, o1, rfl, hbs1, hc1⟩
        · exact absurd hlt (by rw [h1]; exact Nat.not_lt_zero _)
        rcases h2 with h2 | ⟨b2, o2, rfl, hbs2, hc2⟩
        · exact absurd hlt (by rw [hq, h2]; exact Nat.not_lt_zero _)
        obtain ⟨x1, x2, x3⟩ := hc1 k hlt
        obtain ⟨y1, y2, y3⟩ := hc2 k (by omega)
        rw [← hbl.cell (p := ⟨b1, _, none⟩) hbs1] at x1 x2 x3
        rw [← hbl.cell (p := ⟨b2, _, none⟩) hbs2] at y1 y2 y3
        have hlt2 : k < m.length := by omega
        have R2 := Hid.mk' hbl
        have P0 : Hid (peq (pc l k) (pc m k) = ((pc l k).ad == (pc m k).ad && (pc l k).fr == (pc m k).fr && (pc l k).sz == (pc m k).sz)) := rfl
        clear hbl hc1 hc2
        generalize (pc l k).ad = d1 at *
        generalize (pc l k).fr = d2 at *
        generalize (pc l k).sz = d3 at *
        generalize (pc m k).ad = f1 at *
        generalize (pc m k).fr = f2 at *
        generalize (pc m k).sz = f3 at *
        have ne := neq57 d1 f1 d2 d3 f2 f3
        have gd := guard57
        generalize (d1 == f1 && d2 == f2 && d3 == f3) = r at *
        cases r
        · go_wp2
          go_quiet (fail)
          go_wp2
          go_ret
          rw [samePcs_not l m k hlt P0.out Q.out]
          exact ⟨rfl, below_drewN R2.out _⟩
        · go_wp2
          go_quiet (fail)
          go_wp2
          go_roundw
          case rel =>
            refine ⟨k + 1, by omega, by go_num, fun j hj => ?_, below_drewN R2.out _⟩
            by_cases e : j = k
            · subst e; exact P0.out
            · exact HN.out j (by omega)
          case measure => simp [intOf]; omega
      · go_wp2
        go_ret
        have e : k = l.length := by omega
        subst e
        rw [samePcs_all l m Q.out HN.out]
        exact ⟨rfl, hbl⟩
  · rw [samePcs_len l m hq]
    have hq' : ¬ (l.length : Int) = m.length := by omega
    clear h1 h2
    go_enter Try.func54, Try.ntmps54
    go_wp2
    go_ret
    exact ⟨rfl, Below.refl _ _⟩

set_option maxHeartbeats 800000 in
theorem implSame_any (v u : Value) (t s : TB) (w : World) (ht : TAt w v t) (hs : TAt w u s) (hl : (t.base.length : Int) + t.more.length + t.pcs.length ≤ 1048576) (hm : (s.base.length : Int) + s.more.length + s.pcs.length ≤ 1048576) :
    Calls Try.prog 17 #[v, u] w fun e w' => e = .returned (.bool (sameT t s)) ∧ Below w.heap.size w w' := by
  obtain ⟨a1, a2, a3, c1, c2, c3, rfl, h1, h2, h3⟩ := ht
  obtain ⟨b1, b2, b3, d1, d2, d3, rfl, k1, k2, k3⟩ := hs
  have B0 := ((Below.refl w.heap.size w).alloc (Nat.le_refl _) (.cells #[.slice a1 t.base.length c1, .slice a2 t.more.length c2, .slice a3 t.pcs.length c3] 26)).alloc (by simp) (.cells #[.slice b1 s.base.length d1, .slice b2 s.more.length d2, .slice b3 s.pcs.length d3] 26)
  have E1 := Hid.mk' (bytesEqual_any a1 b1 c1 d1 t.base s.base _ (h1.below B0) (k1.below B0))
  have E2 := Hid.mk' (bytesEqual_any a2 b2 c2 d2 t.more s.more _ (h2.below B0) (k2.below B0))
  have E3 := Hid.mk' (slicesEqual_any a3 b3 c3 d3 t.pcs s.pcs _ (h3.below B0) (k3.below B0) (by omega) (by omega))
  have BB := Hid.mk' B0
  have Z : Hid (sameT t s = (((strI t.base).toList == (strI s.base).toList) && ((strI t.more).toList == (strI s.more).toList) && samePcs t.pcs s.pcs)) := rfl
  generalize ((strI t.base).toList == (strI s.base).toList) = r1 at *
  generalize ((strI t.more).toList == (strI s.more).toList) = r2 at *
  clear h1 h2 h3 k1 k2 k3 B0
  cases r1
  · go_enter Try.func17, Try.ntmps17
    go_wp2_with fail
    refine E1.out.mono ?_
    rintro e w1 ⟨rfl, rfl⟩
    go_wp2
    go_ret
    rw [Z.out]
    exact ⟨rfl, BB.out⟩
  · cases r2
    · go_enter Try.func17, Try.ntmps17
      go_wp2_with fail
      refine E1.out.mono ?_
      rintro e w1 ⟨rfl, rfl⟩
      go_wp2_with fail
      refine E2.out.mono ?_
      rintro e w1 ⟨rfl, rfl⟩
      go_wp2
      go_ret
      rw [Z.out]
      exact ⟨rfl, BB.out⟩
    · go_enter Try.func17, Try.ntmps17
      go_wp2_with fail
      refine E1.out.mono ?_
      rintro e w1 ⟨rfl, rfl⟩
      go_wp2_with fail
      refine E2.out.mono ?_
      rintro e w1 ⟨rfl, rfl⟩
      go_wp2_with fail
      refine E3.out.mono ?_
      rintro e w1 ⟨rfl, hb⟩
      have B1 := Hid.mk' (BB.out.trans (hb.mono (by simp; omega)))
      clear hb
      go_wp2
      go_ret
      rw [Z.out]
      exact ⟨rfl, B1.out⟩

end Go.Proofs.Ytahkneghmgmnbaa
