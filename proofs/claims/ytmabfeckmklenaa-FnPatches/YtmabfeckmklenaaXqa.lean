/- Two texts that are drawn, the one out of the other. -/
import Derived.Test.YtmabfeckmklenaaYz
import Derived.Test.YtmabfeckmklenaaSpl
import Derived.Test.YtmabfeckmklenaaWk
import Derived.Test.YtmabfeckmklenaaSpa
namespace Go.Proofs.Ytmabfeckmklenaa
open Go.RowKit
set_option linter.unusedVariables false
set_option linter.unusedSimpArgs false

/-- A slice that has a block. -/
def Sm (v : Value) : Prop := ∃ g, v.ownBlock = some g

theorem Sm.next {v v' : Value} {g : Nat} (h : Sm v) (hq : v'.ownBlock = v.ownBlock ∨ v'.ownBlock = some g) : Sm v' := by
  obtain ⟨k, hk⟩ := h
  rcases hq with hq | hq
  · exact ⟨k, hq.trans hk⟩
  · exact ⟨g, hq⟩

theorem own_some {w : World} {base : Nat} {v : Value} {l : List Int} (h : w.ownsRow base 5 1 v l.length (bcs l)) (hs : Sm v) : ∃ g c, v = .slice (some ⟨g, 0, none⟩) l.length c ∧ l.length ≤ c ∧ base ≤ g ∧ CAt w g 0 l := by
  obtain ⟨ho, hlo⟩ := OB.of_own h
  obtain ⟨k, hk⟩ := hs
  rcases ho with ⟨rfl, _⟩ | ⟨g, cap, cn, f, rfl, hca, hr, hl, hf⟩
  · simp [Value.ownBlock] at hk
  · exact ⟨g, cap, rfl, hca, hlo g rfl, hr.lt, fun j hj => by rw [Nat.zero_add]; exact (hr.cell (by omega)).trans (congrArg some (hf j hj))⟩

set_option maxHeartbeats 400000 in
theorem l1Copy_sm (a : Option Addr) (c : Nat) (l : List Int) (w : World) (ha : BAt w a l) (hl : (l.length : Int) ≤ 1048576) :
    Calls Try.prog 22 #[.slice a l.length c] w fun e w' => ∃ v, e = .returned v ∧ Sm v ∧ w'.ownsRow w.heap.size 5 1 v l.length (bcs l) ∧ Below w.heap.size w w' := by
  have B0 := below_new w (.cells #[] 5)
  go_enter Try.func22, Try.ntmps22
  go_wp2_with (at_builtin; refine wpList_append_at _ rfl (.tmp 3) (.tmp 4) 22 rfl w.heap.size 5 (.int .u8 0) 1 1 Try.underlying22 Try.info5 rfl (by decide) _ 0 [] rfl (World.ownsRow_lit w #[] 0 (Nat.le_refl _) (by decide) rfl) a l.length c (bcs l) rfl (bcs_len l) (ha.below B0).src (bcs_one l) (by unfold maxLen; omega) (by omega) (by simp) ?_; intro v' w1 hown hgr hat)
  go_ret
  rw [Nat.zero_add, List.nil_append] at hown
  refine ⟨_, rfl, Sm.next ⟨w.heap.size, rfl⟩ hat, hown, B0.grown hgr (by simp) (fun k hk => ?_)⟩
  simp [Act.eval, Value.ownBlock] at hk
  omega

set_option maxRecDepth 100000 in
set_option maxHeartbeats 2000000 in
theorem l1Marked_sm (b k n : Nat) (l : List Int) (w : World) (h : Src b l k w) (hk : k ≤ 10000) (hn1 : 1 ≤ n) (hn : n ≤ 10) (hl : (l.length : Int) ≤ 1048576) :
    Calls Try.prog 21 #[.pointer (some ⟨b, 0, none⟩), .int .i64 (n : Int)] w fun e w' => ∃ v out k', e = .returned v ∧ out.length ≤ 18 * n ∧ k' ≤ k + n ∧ Drawn w b l k' v out w' ∧ Sm v := by
  have hbw := h.lt
  have K0 := Hid.mk' (l1Next_any b k l n _ (h.below (below_new w (.cells #[] 5))) (by omega) (by omega) (by omega) hl)
  clear h
  go_enter Try.func21, Try.ntmps21
  go_wp2_with fail
  refine K0.out.mono ?_
  rintro e w0 ⟨c, rfl, c0, c1, hS0, hK0⟩
  have D0 : Hid (Drawn w b l (k + 1) (.slice (some ⟨w.heap.size, 0, none⟩) 0 0) [] w0) := ⟨own_kept (World.ownsRow_lit w #[] 0 (Nat.le_refl _) (by decide) rfl) hK0 (by omega), fun x hx => by simp at hx, hS0, ((KeptIn.refl _ _ _).alloc _).trans hK0⟩
  clear K0 hS0 hK0
  go_wp2
  go_loopw [5, 6] (fun v i wr => ∃ (m k' : Nat) (out : List Int), m < n ∧ i = .int .i64 m ∧ out.length + 18 * m ≤ 18 * n ∧ k' + m ≤ k + n ∧ Drawn w b l k' v out wr ∧ Sm v) (fun _ i _ => (intOf i).toNat)
  case atStart => exact ⟨c.toNat, k + 1, [], by omega, by rw [Int.toNat_of_nonneg c0], by simp; omega, by omega, D0.out, ⟨_, rfl⟩⟩
  case round =>
    obtain ⟨m, k', out, hm, rfl, hlen, hk', hD, hsm⟩ := hrel
    have SM := Hid.mk' hsm
    clear hsm
    by_cases cm : 0 < m
    · have ci : (0 : Int) < (m : Int) := by omega
      have S1 := hD.src.below (below_new wr (.cells words25 9))
      have K := Hid.mk' (l1Next_any b k' l 25 _ S1 (by omega) (by decide) (by decide) hl)
      have hlt := hD.src.lt
      have hws := hD.kept.size
      have W25 := Hid.mk' (words25_at wr)
      have D1 := Hid.mk' (hD.alloc (.cells words25 9))
      obtain ⟨pv_, qv_, rfl⟩ := own_form hD.own
      clear S1 hD
      go_wp2_with fail
      refine K.out.mono ?_
      rintro e w1 ⟨x, rfl, x0, x1, hS1, hK1⟩
      obtain ⟨i, rfl⟩ : ∃ i : Nat, x = (i : Int) := ⟨x.toNat, by omega⟩
      have il : i < 25 := by omega
      obtain ⟨t, ht, htl⟩ := W25.out i il
      have hc : w1.cell? ⟨wr.heap.size, i, none⟩ = some (.string t) := (hK1.cell (p := ⟨wr.heap.size, i, none⟩) (by simp) (show wr.heap.size < b ∨ b + 1 ≤ wr.heap.size by omega)).trans ht
      have D2 : Hid (Drawn w b l (k' + 1) (.slice pv_ out.length qv_) out w1) := ⟨own_kept D1.out.own hK1 (by omega), D1.out.u8, hS1, D1.out.kept.trans hK1⟩
      have hcv := fun W : World => run_bytes_of_string (P := Try.prog) W 9 22 5 t Try.underlying9 Try.underlying22 Try.underlying5
      have l5 : (bcs (sB t)).length = t.size * 1 := by rw [bcs_len, sB_len]
      have ys := hK1.size
      simp at ys
      clear K hS1 hK1 ht W25 D1
      go_wp2_with (at_builtin; refine wpList_append_at _ rfl (.tmp 15) (.tmp 21) 22 rfl w.heap.size 5 (.int .u8 0) 1 1 Try.underlying22 Try.info5 rfl (by decide) (.slice pv_ out.length qv_) _ _ rfl (own_keep D2.out.own (((Below.refl w1.heap.size w1).alloc (Nat.le_refl _) _).drew)) _ _ _ (bcs (sB t)) rfl l5 (.inr ⟨_, rfl, fun j u hj => row_src w1 t _ _ j u hj⟩) (bcs_one _) (by unfold maxLen; omega) (by omega) (by simp; omega) ?_; intro v' w2 ho hgr hat; have D3 := Hid.mk' ((D2.out.below (((Below.refl w1.heap.size w1).alloc (Nat.le_refl _) _).drew)).apps hbw (sB_u8 t) (sB_len t) ho hgr); have S3 := Hid.mk' (SM.out.next hat); clear ho hgr hat)
      go_roundw
      case rel => exact ⟨m - 1, k' + 1, out ++ sB t, by omega, by go_num, by rw [List.length_append, sB_len]; omega, by omega, D3.out, S3.out⟩
      case measure => simp [intOf]; omega
    · have e : m = 0 := by omega
      subst e
      have ci : ¬ (0 : Int) < ((0 : Nat) : Int) := by omega
      go_wp2
      go_ret
      exact ⟨_, rfl, out, by omega, k', by omega, hD, SM.out⟩

end Go.Proofs.Ytmabfeckmklenaa
