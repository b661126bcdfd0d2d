/- Lists of texts, and policies, held against one another: both sides. -/
import Derived.Test.YtbdjppiagjhfmaaCa
import Derived.BigGuard
namespace Go.Proofs.Ytbdjppiagjhfmaa
open Go.RowKit
set_option linter.unusedVariables false
set_option linter.unusedSimpArgs false

/-- Two lists of texts are the same. -/
def sameSs : List ByteArray → List ByteArray → Bool
  | [], [] => true
  | p :: r, q :: s => (p.toList == q.toList) && sameSs r s
  | _, _ => false

theorem sameSs_len : ∀ (l m : List ByteArray), ¬ l.length = m.length → sameSs l m = false
  | [], [], h => absurd rfl h
  | [], _ :: _, _ => rfl
  | _ :: _, [], _ => rfl
  | p :: r, q :: s, h => by simp only [sameSs, sameSs_len r s (by simpa using h), Bool.and_false]

theorem sameSs_all : ∀ (l m : List ByteArray), l.length = m.length → (∀ k, k < l.length → ((sK l k).toList == (sK m k).toList) = true) → sameSs l m = true
  | [], [], _, _ => rfl
  | [], _ :: _, h, _ => by cases h
  | _ :: _, [], h, _ => by cases h
  | p :: r, q :: s, h, hk => by
    have h0 : (p.toList == q.toList) = true := hk 0 (by simp)
    simp only [sameSs, h0, Bool.true_and]
    exact sameSs_all r s (by simpa using h) (fun k hl => hk (k + 1) (by simpa using hl))

theorem sameSs_not : ∀ (l m : List ByteArray) (k : Nat), k < l.length → ((sK l k).toList == (sK m k).toList) = false → l.length = m.length → sameSs l m = false
  | [], _, _, h, _, _ => by cases h
  | _ :: _, [], _, _, _, h => by cases h
  | p :: r, q :: s, 0, _, h, _ => by
    have h0 : (p.toList == q.toList) = false := h
    simp only [sameSs, h0, Bool.false_and]
  | p :: r, q :: s, k + 1, hk, h, hl => by
    simp only [sameSs, sameSs_not r s k (by simpa using hk) h (by simpa using hl), Bool.and_false]

theorem sameSs_none (l : List ByteArray) : sameSs l [] = decide (l.length = 0) := by
  cases l <;> simp [sameSs]

set_option maxHeartbeats 1600000 in
theorem slicesEqualS_any (a b : Option Addr) (c d : Nat) (l m : List ByteArray) (w : World) (h1 : StAt w a l) (h2 : StAt w b m) (hl : (l.length : Int) ≤ 1048576) (hm : (m.length : Int) ≤ 1048576) :
    Calls Try.prog 80 #[.slice a l.length c, .slice b m.length d] w fun e w' => e = .returned (.bool (sameSs l m)) ∧ Below w.heap.size w w' := by
  by_cases hq : l.length = m.length
  · have hq' : (l.length : Int) = m.length := by omega
    have Q := Hid.mk' hq
    have H1 := Hid.mk' h1
    have H2 := Hid.mk' h2
    clear h1 h2 hq
    go_enter Try.func80, Try.ntmps80
    go_wp2
    go_loopw [13] (fun i wr => ∃ k : Nat, k ≤ l.length ∧ i = .int .i64 k ∧ (∀ j, j < k → ((sK l j).toList == (sK m j).toList) = true) ∧ Below w.heap.size w wr) (fun i _ => l.length - (intOf i).toNat)
    case atStart => exact ⟨0, Nat.zero_le _, rfl, fun j h => absurd h (Nat.not_lt_zero _), Below.refl _ _⟩
    case round =>
      obtain ⟨k, hk, rfl, hn, hbl⟩ := hrel
      have HN := Hid.mk' hn
      have R2 := Hid.mk' hbl
      clear hn hbl
      by_cases hlt : k < l.length
      · rcases H1.out.below R2.out with h1 | ⟨b1, o1, rfl, hbs1, hc1⟩
        · exact absurd hlt (by rw [h1]; exact Nat.not_lt_zero _)
        rcases H2.out.below R2.out with h2 | ⟨b2, o2, rfl, hbs2, hc2⟩
        · exact absurd hlt (by rw [Q.out, h2]; exact Nat.not_lt_zero _)
        have x1 := hc1 k hlt
        have y1 := hc2 k (by have := Q.out; omega)
        have hlt2 : k < m.length := by have := Q.out; omega
        clear hc1 hc2
        have P0 := Hid.mk' (Eq.refl ((sK l k).toList == (sK m k).toList))
        cases he : ((sK l k).toList == (sK m k).toList)
        · have E := Hid.mk' (sameSs_not l m k hlt he Q.out)
          generalize sK l k = p at *
          generalize sK m k = q at *
          have he' : (p.toList != q.toList) = true := by unfold bne; rw [he]; rfl
          go_wp2
          go_quiet (fail)
          go_wp2
          go_ret
          rw [E.out]
          exact ⟨rfl, below_drewN R2.out _⟩
        · have HN2 : Hid (∀ j, j < k + 1 → ((sK l j).toList == (sK m j).toList) = true) := Hid.mk' (fun j hj => by
            by_cases e : j = k
            · subst e; exact he
            · exact HN.out j (by omega))
          generalize sK l k = p at *
          generalize sK m k = q at *
          have he' : (p.toList != q.toList) = false := by unfold bne; rw [he]; rfl
          go_wp2
          go_quiet (fail)
          go_wp2
          go_roundw
          case rel => exact ⟨k + 1, by omega, by go_num, HN2.out, below_drewN R2.out _⟩
          case measure => simp [intOf]; omega
      · go_wp2
        go_ret
        have e : k = l.length := by omega
        subst e
        rw [sameSs_all l m Q.out HN.out]
        exact ⟨rfl, R2.out⟩
  · have hq' : ¬ (l.length : Int) = m.length := by omega
    have Q := Hid.mk' hq
    clear h1 h2 hq
    go_enter Try.func80, Try.ntmps80
    go_wp2
    go_ret
    rw [sameSs_len l m Q.out]
    exact ⟨rfl, Below.refl _ _⟩

/-- Two policies are the same. -/
def sameP (p q : PO) : Bool := sameSs p.tg q.tg && sameSs p.at_ q.at_ && sameSs p.sc q.sc

set_option maxHeartbeats 1600000 in
theorem samePolicy_any (p q : PO) (a b c a' b' c' : Option Addr) (n1 n2 n3 m1 m2 m3 : Nat) (w : World) (ha : POAt w a b c p) (hb : POAt w a' b' c' q) (hl : (psz p : Int) ≤ 1048576) (hm : (psz q : Int) ≤ 1048576) :
    Calls Try.prog 51 #[.agg #[.slice a p.tg.length n1, .slice b p.at_.length n2, .slice c p.sc.length n3], .agg #[.slice a' q.tg.length m1, .slice b' q.at_.length m2, .slice c' q.sc.length m3]] w fun e w' => e = .returned (.bool (sameP p q)) ∧ Below w.heap.size w w' := by
  unfold psz at hl hm
  have N0 := below_new w (.cells #[.slice a p.tg.length n1, .slice b p.at_.length n2, .slice c p.sc.length n3] 30)
  have R0 := row3 w 30 (.slice a p.tg.length n1) (.slice b p.at_.length n2) (.slice c p.sc.length n3)
  have N1 := below_new (w.alloc (.cells #[.slice a p.tg.length n1, .slice b p.at_.length n2, .slice c p.sc.length n3] 30)) (.cells #[.slice a' q.tg.length m1, .slice b' q.at_.length m2, .slice c' q.sc.length m3] 30)
  have R1 := Hid.mk' (row3 (w.alloc (.cells #[.slice a p.tg.length n1, .slice b p.at_.length n2, .slice c p.sc.length n3] 30)) 30 (.slice a' q.tg.length m1) (.slice b' q.at_.length m2) (.slice c' q.sc.length m3))
  have HR := Hid.mk' (rowB R0 N1)
  have HA := Hid.mk' ((ha.below N0).below N1)
  have HQ := Hid.mk' ((hb.below N0).below N1)
  have HB := Hid.mk' (N0.trans (N1.mono N0.size))
  clear ha hb N0 N1 R0
  generalize hW : (w.alloc (.cells #[.slice a p.tg.length n1, .slice b p.at_.length n2, .slice c p.sc.length n3] 30)).alloc (.cells #[.slice a' q.tg.length m1, .slice b' q.at_.length m2, .slice c' q.sc.length m3] 30) = W at *
  generalize hU : (w.alloc (.cells #[.slice a p.tg.length n1, .slice b p.at_.length n2, .slice c p.sc.length n3] 30)).heap.size = u at *
  obtain ⟨x0, x1, x2, x3⟩ := cellsP HR.out
  obtain ⟨y0, y1, y2, y3⟩ := cellsP R1.out
  have SP : Hid (sameP p q = (sameSs p.tg q.tg && (sameSs p.at_ q.at_ && sameSs p.sc q.sc))) := Hid.mk' (by unfold sameP; rw [Bool.and_assoc])
  have K1 := Hid.mk' (slicesEqualS_any a a' n1 m1 p.tg q.tg W HA.out.1 HQ.out.1 (by omega) (by omega))
  generalize sameP p q = R at *
  cases e1 : sameSs p.tg q.tg with
  | false =>
    rw [e1] at K1
    go_enter Try.func51, Try.ntmps51
    go_wp2_with fail
    clear hW
    refine K1.out.mono ?_
    rintro e w1 ⟨rfl, hb⟩
    have HB := Hid.mk' (HB.out.trans (hb.mono HB.out.size))
    clear hb K1
    go_wp2_with (first | go_big_skip)
    go_ret
    exact ⟨by rw [SP.out, e1]; rfl, HB.out⟩
  | true =>
  rw [e1] at K1
  go_enter Try.func51, Try.ntmps51
  go_wp2_with fail
  clear hW x0 x1 x2 x3 y0 y1 y2 y3
  refine K1.out.mono ?_
  rintro e w1 ⟨rfl, hb⟩
  have HR := Hid.mk' (rowB HR.out hb)
  have R1 := Hid.mk' (rowB R1.out hb)
  have HA := Hid.mk' (HA.out.below hb)
  have HQ := Hid.mk' (HQ.out.below hb)
  have HB := Hid.mk' (HB.out.trans (hb.mono HB.out.size))
  clear hb K1
  obtain ⟨x0, x1, x2, x3⟩ := cellsP HR.out
  obtain ⟨y0, y1, y2, y3⟩ := cellsP R1.out
  have K2 := Hid.mk' (slicesEqualS_any b b' n2 m2 p.at_ q.at_ w1 HA.out.2.1 HQ.out.2.1 (by omega) (by omega))
  cases e2 : sameSs p.at_ q.at_ with
  | false =>
    rw [e2] at K2
    go_wp2_with (first | go_big_skip | fail)
    refine K2.out.mono ?_
    rintro e w2 ⟨rfl, hb⟩
    have HB := Hid.mk' (HB.out.trans (hb.mono HB.out.size))
    clear hb K2
    go_wp2_with (first | go_big_skip)
    go_ret
    exact ⟨by rw [SP.out, e1, e2]; rfl, HB.out⟩
  | true =>
  rw [e2] at K2
  go_wp2_with (first | go_big_skip | fail)
  clear x0 x1 x2 x3 y0 y1 y2 y3
  refine K2.out.mono ?_
  rintro e w2 ⟨rfl, hb⟩
  have HR := Hid.mk' (rowB HR.out hb)
  have R1 := Hid.mk' (rowB R1.out hb)
  have HA := Hid.mk' (HA.out.below hb)
  have HQ := Hid.mk' (HQ.out.below hb)
  have HB := Hid.mk' (HB.out.trans (hb.mono HB.out.size))
  clear hb K2
  obtain ⟨x0, x1, x2, x3⟩ := cellsP HR.out
  obtain ⟨y0, y1, y2, y3⟩ := cellsP R1.out
  have K3 := Hid.mk' (slicesEqualS_any c c' n3 m3 p.sc q.sc w2 HA.out.2.2 HQ.out.2.2 (by omega) (by omega))
  generalize sameSs p.sc q.sc = r3 at *
  go_wp2_with (first | go_big_skip | fail)
  refine K3.out.mono ?_
  rintro e w3 ⟨rfl, hb⟩
  have HB := Hid.mk' (HB.out.trans (hb.mono HB.out.size))
  clear hb K3
  go_wp2_with (first | go_big_skip)
  go_ret
  exact ⟨by rw [SP.out, e1, e2]; rfl, HB.out⟩

end Go.Proofs.Ytbdjppiagjhfmaa
