/- Patches done to bytes: the mathematics; the model. -/
import Derived.Test.YtbdjppiagjhfmaaXpe
import Derived.Test.YtbdjppiagjhfmaaSpb
import Derived.Test.YtbdjppiagjhfmaaSpl
namespace Go.Proofs.Ytbdjppiagjhfmaa
open Go.RowKit
set_option linter.unusedVariables false
set_option linter.unusedSimpArgs false

/-- What patches leave of bytes, from a place on. -/
def apl (d : List Int) : List XK → Nat → List Int
  | [], at_ => d.drop at_
  | x :: r, at_ => (d.drop at_).take (x.pl.toNat - at_) ++ x.hd ++ apl d r (x.pl.toNat + x.ct.toNat)

theorem apl_step {d : List Int} {l : List XK} {k at_ : Nat} (hk : k < l.length) : apl d (l.drop k) at_ = (d.drop at_).take ((xkK l k).pl.toNat - at_) ++ (xkK l k).hd ++ apl d (l.drop (k + 1)) ((xkK l k).pl.toNat + (xkK l k).ct.toNat) := by
  rw [drop_xk hk]
  rfl

theorem apl_end (d : List Int) (l : List XK) (at_ : Nat) : apl d (l.drop l.length) at_ = d.drop at_ := by
  rw [List.drop_length]
  rfl

/-- A patch that has no fault, in numbers from 0 on. -/
theorem pone_zero {x : XK} {s e : Nat} (h : pone x s e = 0) : ∃ p c : Nat, x.pl = p ∧ x.ct = c ∧ e ≤ p ∧ p + c ≤ s ∧ x.hd.length ≤ 240 := by
  unfold pone at h
  split at h
  · exact absurd h (by decide)
  · split at h
    · exact absurd h (by decide)
    · split at h
      · exact absurd h (by decide)
      · exact ⟨x.pl.toNat, x.ct.toNat, by omega, by omega, by omega, by omega, by omega⟩

/-- Bytes from a place on, where a slice from there on says they lie. -/
theorem CAt.some {w : World} {b o c f z : Nat} {l : List Int} (h : CAt w b o l) (hc : l.length ≤ c) (hf : f + z ≤ l.length) : BAt w (if c = f then some ⟨b, o, none⟩ else some ⟨b, o + f, none⟩) ((l.drop f).take z) := by
  by_cases e : c = f
  · have : z = 0 := by omega
    subst this
    exact .inl (by simp)
  · rw [if_neg e]; exact (h.sub hf).at

theorem some_len {l : List Int} {f z : Nat} (h : f + z ≤ l.length) : ((l.drop f).take z).length = z := by
  rw [List.length_take, List.length_drop]; omega

set_option maxHeartbeats 1600000 in
theorem l14Apply_any (b o c : Nat) (d : List Int) (a : Option Addr) (m : Nat) (l : List XK) (w : World) (hd : CAt w b o d) (hc : d.length ≤ c) (ha : XsAt w a l) (hs : d.length ≤ 2000) (hl : l.length ≤ 20) (h0 : pallX l d.length 0 = 0) :
    Calls Try.prog 66 #[.slice (some ⟨b, o, none⟩) d.length c, .slice a l.length m] w fun e w' => ∃ v, e = .returned v ∧ w'.ownsRow w.heap.size 5 1 v (apl d l 0).length (bcs (apl d l 0)) ∧ Below w.heap.size w w' := by
  have HA := Hid.mk' ha
  have HD := Hid.mk' hd
  have T := Hid.mk' h0
  clear ha hd h0
  obtain ⟨t, hT⟩ : ∃ t, apl d l 0 = t := ⟨_, rfl⟩
  rw [hT]
  have TT := Hid.mk' hT
  clear hT
  go_enter Try.func66, Try.ntmps66
  go_wp2
  go_loopw [5, 6, 7] (fun v x i wr => ∃ (k f : Nat) (q : List Int), k ≤ l.length ∧ f ≤ d.length ∧ i = .int .i64 k ∧ x = .int .i64 f ∧ pallX (l.drop k) d.length f = 0 ∧ q ++ apl d (l.drop k) f = t ∧ q.length ≤ f + 240 * k ∧ wr.ownsRow w.heap.size 5 1 v q.length (bcs q) ∧ Below w.heap.size w wr) (fun _ _ i _ => l.length - (intOf i).toNat)
  case atStart => exact ⟨0, 0, [], Nat.zero_le _, Nat.zero_le _, rfl, rfl, T.out, by simpa using TT.out, by simp, World.ownsRow_lit w #[] 0 (Nat.le_refl _) (by decide) rfl, below_new w _⟩
  case round =>
    obtain ⟨k, f, q, hk, hf, rfl, rfl, hz, hq, hql, hown, hbl⟩ := hrel
    have HB := Hid.mk' hbl
    have HO := Hid.mk' hown
    clear hbl hown T TT
    by_cases hlt : k < l.length
    · have ci : (k : Int) < (l.length : Int) := by omega
      rcases HA.out with ha | ⟨b1, o1, rfl, hbs, hc1⟩
      · exact absurd hlt (by rw [ha]; exact Nat.not_lt_zero _)
      obtain ⟨q0, q1, p, e, q2, hp⟩ := hc1 k hlt
      replace q0 := (HB.out.cell hbs).trans q0
      replace q1 := (HB.out.cell hbs).trans q1
      replace q2 := (HB.out.cell hbs).trans q2
      rcases pall_step hlt hz with ⟨hz1, hz2⟩ | ⟨hz1, hz2⟩
      rotate_left
      · exact absurd hz2 hz1
      obtain ⟨P, C, e1, e2, hfP, hPC, hh⟩ := pone_zero hz1
      rw [apl_step hlt] at hq
      rw [e1, e2] at hz2 hq
      rw [Int.toNat_natCast, Int.toNat_natCast] at hq
      rw [e1] at q0
      rw [e2] at q1
      have L1 : Hid (((d.drop f).take (P - f)).length = P - f) := Hid.mk' (some_len (by omega))
      have HS := Hid.mk' ((HD.out.below HB.out).some (f := f) (z := P - f) hc (by omega))
      have HP := Hid.mk' hp
      have Z2 := Hid.mk' hz2
      have HQ := Hid.mk' hq
      have HQL := Hid.mk' hql
      clear hc1 hp hz hz1 hz2 hq hql e1 e2
      generalize hn : (xkK l k).hd = h at *
      have i1 : (0 : Int) ≤ (f : Int) := by omega
      have i2 : (f : Int) ≤ (P : Int) := by omega
      have i3 : (P : Int) ≤ (c : Int) := by omega
      have iw : IntKind.i64.wrap ((P : Int) + (C : Int)) = (P : Int) + (C : Int) := by rw [IntKind.wrap_i64]; omega
      have HPC := Hid.mk' hPC
      clear hn
      by_cases hcf : c = f
      · have HS := HS.out
        rw [if_pos hcf] at HS
        have HS := Hid.mk' HS
        subst hcf
        go_wp2
        go_region_held3 (fun w' => w'.cell? ⟨b1, o1 + k * 3, none⟩ = some (.int .i64 (P : Int)) ∧ w'.cell? ⟨b1, o1 + k * 3 + 2, none⟩ = some (.slice p h.length e)) (simp [*])
          (first | (refine step_append_at rfl (.tmp 15) (.tmp 23) 22 rfl w.heap.size 5 (.int .u8 0) 1 1 Try.underlying22 Try.info5 rfl (by decide) u5 q.length (bcs q) rfl HO.out.drew (some ⟨b, o, none⟩) (P - c) _ (bcs ((d.drop c).take (P - c))) rfl (by rw [bcs_len, L1.out]) (by have := (HS.out.below (Below.refl _ _).drew).src; rwa [L1.out] at this) (bcs_one _) (by have := HQL.out; unfold maxLen; omega) (by have := HQL.out; omega) HB.out.size ?_; intro v1 w1 ho1 hg1 hq1; clear hq1; have hb1 := HB.out.drew.grown hg1 HB.out.size (own_lo HO.out); have hx1 := grown_cells hg1 (own_lo HO.out) HB.out.size; simp at hx1) | (refine step_append_at rfl (.tmp 24) (.tmp 29) 22 rfl w.heap.size 5 (.int .u8 0) 1 1 Try.underlying22 Try.info5 rfl (by decide) v1 (q.length + (P - c)) _ rfl ho1 p h.length e (bcs h) rfl (bcs_len h) (HP.out.below hb1).src (bcs_one _) (by have := HQL.out; unfold maxLen; omega) (by have := HQL.out; omega) hb1.size ?_; intro v2 w2 ho2 hg2 hq2; clear hq2; have hb2 := hb1.grown hg2 hb1.size (own_lo ho1); have hx2 := grown_cells hg2 (own_lo ho1) hb1.size; (try simp at hx2)))
        have g0 := (hx2 b1 (o1 + k * 3) hbs).trans ((hx1 b1 (o1 + k * 3) hbs).trans q0)
        have g1 := (hx2 b1 (o1 + k * 3 + 1) hbs).trans ((hx1 b1 (o1 + k * 3 + 1) hbs).trans q1)
        have O2 : Hid (w2.ownsRow w.heap.size 5 1 v2 (q ++ (d.drop c).take (P - c) ++ h).length (bcs (q ++ (d.drop c).take (P - c) ++ h))) := by
          show World.ownsRow _ _ _ _ _ _ _
          rw [bcs_append, bcs_append, List.length_append, List.length_append, L1.out]
          exact ho2
        have B2 := Hid.mk' hb2
        clear hx1 hx2 ho1 ho2 hg1 hg2 hb1 hb2 q0 q1 q2 HS HO
        go_wp2
        go_region_held3 (fun w' => w'.cell? ⟨b1, o1 + k * 3, none⟩ = some (.int .i64 (P : Int)) ∧ w'.cell? ⟨b1, o1 + k * 3 + 1, none⟩ = some (.int .i64 (C : Int))) (simp [*])
          (fail)
        go_wp2
        go_roundw
        case rel => exact ⟨k + 1, P + C, q ++ (d.drop c).take (P - c) ++ h, by omega, by have := HPC.out; omega, by go_num, by go_num, by rw [← Z2.out]; congr 1, by rw [← HQ.out]; simp [List.append_assoc], by have := HQL.out; have := L1.out; simp only [List.length_append]; omega, O2.out.drew, B2.out.drew⟩
        case measure => simp [intOf]; omega
      · have HS := HS.out
        rw [if_neg hcf] at HS
        have HS := Hid.mk' HS
        go_wp2
        go_region_held3 (fun w' => w'.cell? ⟨b1, o1 + k * 3, none⟩ = some (.int .i64 (P : Int)) ∧ w'.cell? ⟨b1, o1 + k * 3 + 2, none⟩ = some (.slice p h.length e)) (simp [*])
          (first | (refine step_append_at rfl (.tmp 15) (.tmp 23) 22 rfl w.heap.size 5 (.int .u8 0) 1 1 Try.underlying22 Try.info5 rfl (by decide) u5 q.length (bcs q) rfl HO.out.drew (some ⟨b, o + f, none⟩) (P - f) (c - f) (bcs ((d.drop f).take (P - f))) rfl (by rw [bcs_len, L1.out]) (by have := (HS.out.below (Below.refl _ _).drew).src; rwa [L1.out] at this) (bcs_one _) (by have := HQL.out; unfold maxLen; omega) (by have := HQL.out; omega) HB.out.size ?_; intro v1 w1 ho1 hg1 hq1; clear hq1; have hb1 := HB.out.drew.grown hg1 HB.out.size (own_lo HO.out); have hx1 := grown_cells hg1 (own_lo HO.out) HB.out.size; simp at hx1) | (refine step_append_at rfl (.tmp 24) (.tmp 29) 22 rfl w.heap.size 5 (.int .u8 0) 1 1 Try.underlying22 Try.info5 rfl (by decide) v1 (q.length + (P - f)) _ rfl ho1 p h.length e (bcs h) rfl (bcs_len h) (HP.out.below hb1).src (bcs_one _) (by have := HQL.out; unfold maxLen; omega) (by have := HQL.out; omega) hb1.size ?_; intro v2 w2 ho2 hg2 hq2; clear hq2; have hb2 := hb1.grown hg2 hb1.size (own_lo ho1); have hx2 := grown_cells hg2 (own_lo ho1) hb1.size; (try simp at hx2)))
        have g0 := (hx2 b1 (o1 + k * 3) hbs).trans ((hx1 b1 (o1 + k * 3) hbs).trans q0)
        have g1 := (hx2 b1 (o1 + k * 3 + 1) hbs).trans ((hx1 b1 (o1 + k * 3 + 1) hbs).trans q1)
        have O2 : Hid (w2.ownsRow w.heap.size 5 1 v2 (q ++ (d.drop f).take (P - f) ++ h).length (bcs (q ++ (d.drop f).take (P - f) ++ h))) := by
          show World.ownsRow _ _ _ _ _ _ _
          rw [bcs_append, bcs_append, List.length_append, List.length_append, L1.out]
          exact ho2
        have B2 := Hid.mk' hb2
        clear hx1 hx2 ho1 ho2 hg1 hg2 hb1 hb2 q0 q1 q2 HS HO
        go_wp2
        go_region_held3 (fun w' => w'.cell? ⟨b1, o1 + k * 3, none⟩ = some (.int .i64 (P : Int)) ∧ w'.cell? ⟨b1, o1 + k * 3 + 1, none⟩ = some (.int .i64 (C : Int))) (simp [*])
          (fail)
        go_wp2
        go_roundw
        case rel => exact ⟨k + 1, P + C, q ++ (d.drop f).take (P - f) ++ h, by omega, by have := HPC.out; omega, by go_num, by go_num, by rw [← Z2.out]; congr 1, by rw [← HQ.out]; simp [List.append_assoc], by have := HQL.out; have := L1.out; simp only [List.length_append]; omega, O2.out.drew, B2.out.drew⟩
        case measure => simp [intOf]; omega
    · have ci : ¬ (k : Int) < (l.length : Int) := by omega
      have e : k = l.length := by omega
      subst e
      rw [apl_end] at hq
      have HS := Hid.mk' (((HD.out.below HB.out).rest hc hf))
      have HQ := Hid.mk' hq
      have L1 : (bcs (d.drop f)).length = (d.length - f) * 1 := by rw [bcs_len, List.length_drop]
      have L2 : Hid (t.length = q.length + (d.length - f)) := Hid.mk' (by rw [← hq, List.length_append, List.length_drop])
      clear hq hz
      go_wp2_with (at_builtin; refine wpList_append_any _ rfl (.tmp 42) (.tmp 45) 22 rfl w.heap.size 5 (.int .u8 0) 1 1 Try.underlying22 Try.info5 rfl (by decide) _ q.length _ rfl HO.out (if c = f then some ⟨b, o, none⟩ else some ⟨b, o + f, none⟩) (d.length - f) (c - f) (bcs (d.drop f)) rfl L1 (by have := HS.out.src; rwa [List.length_drop] at this) (bcs_one _) (by unfold maxLen; omega) (by omega) HB.out.size ?_; intro v3 w3 ho3 hg3; have hb3 := HB.out.grown hg3 HB.out.size (fun k hk => own_lo HO.out k hk))
      all_goals
        go_ret
        rw [← L2.out, ← bcs_append, HQ.out] at ho3
        exact ⟨_, rfl, ho3, hb3⟩

end Go.Proofs.Ytbdjppiagjhfmaa
