/- Bytes that are drawn one by one. -/
import Derived.Test.YtmabfeckmklenaaXqa
import Derived.Deep.RegionHeld3
namespace Go.Proofs.Ytmabfeckmklenaa
open Go.RowKit
set_option linter.unusedVariables false
set_option linter.unusedSimpArgs false

theorem one_byteS (W : World) (x : Int) : ∀ j u, (bcs [x])[j]? = some u → (W.alloc (.cells #[.int .u8 x] 5)).cell? ((⟨W.heap.size, 0, none⟩ : Addr).add j) = some u := by
  intro j u hj
  have : j = 0 := by
    have := (List.getElem?_eq_some_iff.1 hj).1
    simp [bcs] at this
    omega
  subst this
  simp [bcs] at hj
  subst hj
  have r := World.rowIs_alloc W #[.int .u8 x] 5 (fun _ => .int .u8 x) (fun i hi => by
    have : i = 0 := by simp at hi; omega
    subst this; rfl)
  rw [Addr.add_mid]
  exact r.cell (by simp)

set_option maxRecDepth 100000 in
set_option maxHeartbeats 2000000 in
theorem l1Some_any (b k n : Nat) (l : List Int) (w : World) (h : Src b l k w) (hk : k ≤ 10000) (hn : n ≤ 20) (hl : (l.length : Int) ≤ 1048576) :
    Calls Try.prog 32 #[.pointer (some ⟨b, 0, none⟩), .int .i64 (n : Int)] w fun e w' => ∃ v out, e = .returned v ∧ out.length = n ∧ Drawn w b l (k + n) v out w' ∧ Sm v := by
  have hbw := h.lt
  have D0 : Hid (Drawn w b l k (.slice (some ⟨w.heap.size, 0, none⟩) 0 0) [] (w.alloc (.cells #[] 5))) := Hid.mk' ⟨World.ownsRow_lit w #[] 0 (Nat.le_refl _) (by decide) rfl, fun x hx => by simp at hx, h.below (below_new w _), (KeptIn.refl _ _ _).alloc _⟩
  clear h
  go_enter Try.func32, Try.ntmps32
  go_wp2
  go_loopw [1, 5] (fun i v wr => ∃ (m : Nat) (out : List Int), i = .int .i64 (m : Int) ∧ out.length + m = n ∧ Drawn w b l (k + out.length) v out wr ∧ Sm v) (fun i _ _ => (intOf i).toNat)
  case atStart => exact ⟨n, [], rfl, by simp, by simpa using D0.out, ⟨_, rfl⟩⟩
  case round =>
    obtain ⟨m, out, rfl, hm, hD, hsm⟩ := hrel
    have SM := Hid.mk' hsm
    clear hsm
    by_cases cm : 0 < m
    · have ci : (0 : Int) < (m : Int) := by omega
      have K := Hid.mk' (l1Next_any b (k + out.length) l 256 wr hD.src (by omega) (by decide) (by decide) hl)
      have DD_ := Hid.mk' hD
      have hws := hD.kept.size
      obtain ⟨pv_, qv_, rfl⟩ := own_form hD.own
      clear hD
      go_wp2_with fail
      refine K.out.mono ?_
      rintro e w1 ⟨x, rfl, x0, x1, hS1, hK1⟩
      have D2 : Hid (Drawn w b l (k + out.length + 1) (.slice pv_ out.length qv_) out w1) := Hid.mk' ⟨own_kept DD_.out.own hK1 (by omega), DD_.out.u8, hS1, DD_.out.kept.trans hK1⟩
      have hx8 : IntKind.u8.wrap x = x := by
        have : x % 256 = x := by omega
        simpa [IntKind.wrap, IntKind.bits, IntKind.signed] using this
      have ys := hK1.size
      clear K hS1 hK1 DD_
      go_wp2_with (at_builtin; refine wpList_append_at _ rfl (.tmp 11) (.tmp 15) 22 rfl w.heap.size 5 (.int .u8 0) 1 1 Try.underlying22 Try.info5 rfl (by decide) (.slice pv_ out.length qv_) out.length (bcs out) rfl (own_keep D2.out.own (below_new w1 _)) _ 1 _ (bcs [x]) rfl rfl (.inr ⟨_, rfl, one_byteS w1 x⟩) (bcs_one _) (by unfold maxLen; omega) (by omega) (by simp; omega) ?_; intro v' w2 ho hgr hat; have D3 := Hid.mk' ((D2.out.below (below_new w1 (.cells #[.int .u8 x] 5))).apps hbw (more := [x]) (fun y hy => by simp at hy; omega) rfl ho hgr); have S3 := Hid.mk' (SM.out.next hat); clear ho hgr hat)
      go_roundw
      case rel => exact ⟨m - 1, out ++ [x], by go_num, by rw [List.length_append]; simp; omega, by rw [List.length_append, List.length_singleton, ← Nat.add_assoc]; exact D3.out, S3.out⟩
      case measure => simp [intOf]; omega
    · have e : m = 0 := by omega
      subst e
      have ci : ¬ (0 : Int) < ((0 : Nat) : Int) := by omega
      have hle : out.length = n := by omega
      go_wp2
      go_ret
      exact ⟨_, rfl, out, hle, by rw [← hle]; exact hD, SM.out⟩

end Go.Proofs.Ytmabfeckmklenaa
