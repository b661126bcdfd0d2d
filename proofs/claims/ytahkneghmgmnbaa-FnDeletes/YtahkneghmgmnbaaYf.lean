/- Walks: small callees of the laws on inserts and deletes; a new table's bytes drawn; the size of a bent table. -/
import Derived.Test.YtahkneghmgmnbaaYd
namespace Go.Proofs.Ytahkneghmgmnbaa
open Go.RowKit
set_option linter.unusedVariables false

theorem lwBig_any (a : Option Addr) (c n : Nat) (w : World) :
    Calls Try.prog 6 #[.slice a n c] w fun e w' => e = .returned (.bool (decide ((1048576 : Int) < (n : Int)))) ∧ w' = w := by
  go_enter Try.func6, Try.ntmps6
  go_wp2
  go_ret
  exact ⟨rfl, rfl⟩

theorem lwBytes_same (a a' : Option Addr) (c c' : Nat) (D : List Int) (w : World) (h : BAt w a D) (h' : BAt w a' D) (hu : ∀ x ∈ D, 0 ≤ x ∧ x ≤ 255) :
    Calls Try.prog 14 #[.slice a D.length c, .slice a' D.length c'] w fun e w' => e = .returned (.bool true) ∧ w' = w := by
  have c1 := conv_bytes w a c D h hu
  have c2 := conv_bytes w a' c' D h' hu
  go_enter Try.func14, Try.ntmps14
  go_wp2
  go_ret
  exact ⟨by simp, rfl⟩

/-- Pieces, up to a hundred, whose sizes are small. -/
def Some100 (l : List PC) : Prop := l.length ≤ 100 ∧ ∀ k, k < l.length → 0 ≤ (pc l k).sz ∧ (pc l k).sz ≤ 2000

theorem Some100.total_le {l : List PC} (h : Some100 l) : ∀ k, k ≤ l.length → 0 ≤ total (l.take k) ∧ total (l.take k) ≤ 2000 * k := by
  intro k
  induction k with
  | zero => intro _; simp [total]
  | succ k ih =>
    intro hk
    have h1 := ih (by omega)
    have h2 := h.2 k (by omega)
    rw [total_take l k (by omega)]
    omega

theorem Bent.some {t : TB} (h : Bent t) : Some100 t.pcs := ⟨by have := h.lp; omega, h.sz⟩

set_option maxHeartbeats 400000 in
theorem l1Size_bent (tb : Nat) (a : Option Addr) (c : Nat) (l : List PC) (w : World) (h0 : w.cell? ⟨tb, 2, none⟩ = some (.slice a l.length c)) (hp : PAt w a l) (hs : Some100 l) :
    Calls Try.prog 34 #[.pointer (some ⟨tb, 0, none⟩)] w fun e w' => e = .returned (.int .i64 (total l)) ∧ w' = w := by
  have hl := hs.1
  go_enter Try.func34, Try.ntmps34
  go_wp2
  go_loop [3, 4] (fun n i => ∃ k : Nat, k ≤ l.length ∧ i = .int .i64 k ∧ n = .int .i64 (total (l.take k))) (fun _ i => l.length - (intOf i).toNat)
  case atStart => exact ⟨0, Nat.zero_le _, rfl, rfl⟩
  case round =>
    obtain ⟨k, hk, rfl, rfl⟩ := hrel
    have ht := hs.total_le k hk
    by_cases hlt : k < l.length
    · rcases hp with hp | ⟨b, o, rfl, hbs, hc⟩
      · exact absurd hlt (by rw [hp]; exact Nat.not_lt_zero _)
      obtain ⟨_, _, q3⟩ := hc k hlt
      have hz := hs.2 k hlt
      have E := Hid.mk' (total_take l k hlt)
      obtain ⟨x, hx⟩ : ∃ x, x = total (l.take k) := ⟨_, rfl⟩
      rw [← hx] at ht ⊢
      have X := Hid.mk' hx
      clear hc hx
      go_wp2
      go_round
      case rel => exact ⟨k + 1, by omega, by go_num, by rw [E.out, ← X.out]⟩
      case measure => simp [intOf]; omega
    · go_wp2
      go_ret
      have e : k = l.length := by omega
      subst e
      exact ⟨by rw [List.take_length]; rfl, rfl⟩

set_option maxHeartbeats 1000000 in
theorem drawNewTable_any (a : Option Addr) (c : Nat) (l : List Int) (w : World) (ha : BAt w a l) (hu : ∀ i, i < l.length → 0 ≤ l.getD i 0 ∧ l.getD i 0 ≤ 255) (hl : (l.length : Int) ≤ 1048576) :
    Calls Try.prog 10 #[.slice a l.length c] w fun e w' => ∃ (D : List Int) (a' : Option Addr) (c' : Nat), e = .returned (.slice a' D.length c') ∧ BAt w' a' D ∧ D.length ≤ 241 ∧ U8 D ∧ Below w.heap.size w w' := by
  have K := Hid.mk' (l1Source_any a c l w ha hu)
  clear ha hu
  go_enter Try.func10, Try.ntmps10
  go_wp2_with fail
  refine K.out.mono ?_
  rintro e w1 ⟨rfl, hS, hb⟩
  have HB := Hid.mk' hb
  have HS := Hid.mk' hS
  clear K hS hb
  go_wp2_with fail
  refine (l1Chance_any w.heap.size 0 l 30 w1 HS.out (by decide) (by decide) (by decide) hl).mono ?_
  rintro e w2 ⟨v, rfl, hS2, hK2⟩
  have HB2 := Hid.mk' (hK2.below' w (Nat.le_refl _) HB.out)
  have HS2 := Hid.mk' hS2
  have y2 := HB2.out.size
  have hlt2 := hS2.lt
  clear HB HS hS2 hK2
  cases v with
  | true =>
    go_wp2_with fail
    refine (l1Pick_any w.heap.size 1 w2.heap.size 2 l [240, 241] _ (HS2.out.below (below_new w2 _)) (iat_lit w2 [240, 241]) (by omega) (by decide) (by decide) (by decide) hl).mono ?_
    rintro e w3 ⟨i, hi, rfl, _, hK3⟩
    have HB3 := Hid.mk' (hK3.below' w (Nat.le_refl _) (HB2.out.alloc y2 _))
    obtain ⟨x, hx, xl⟩ : ∃ x : Nat, ([240, 241] : List Int).getD i 0 = (x : Int) ∧ x ≤ 241 := by
      have hi' : i = 0 ∨ i = 1 := by simp at hi; omega
      rcases hi' with rfl | rfl
      · exact ⟨240, rfl, by decide⟩
      · exact ⟨241, rfl, by decide⟩
    rw [hx]
    have hmk := run_make_row' (P := Try.prog) 22 5 (.int .u8 0) 1 Try.underlying22 Try.info5 rfl .i64 .i64 x (by omega) (by omega)
    have Z := Hid.mk' (zeros w3 x)
    have HB4 := Hid.mk' (HB3.out.alloc HB3.out.size (.cells (madeCells #[.int .u8 0] x) 5))
    clear HB2 HS2 hK3 hx hi HB3
    go_wp2
    go_ret
    exact ⟨List.replicate x 0, some ⟨w3.heap.size, 0, none⟩, x, by rw [List.length_replicate]; rfl, Z.out, by rw [List.length_replicate]; omega, U8.zeros x, HB4.out⟩
  | false =>
    go_wp2_with fail
    refine (l1Marked_any w.heap.size 1 6 l w2 HS2.out (by decide) (by decide) (by decide) hl).mono ?_
    rintro e w3 ⟨v, out, k3, rfl, ol, _, hD⟩
    obtain ⟨p, q, rfl⟩ := own_form hD.own
    have HB3 := Hid.mk' (hD.kept.below' w (Nat.le_refl _) HB2.out)
    have O3 := Hid.mk' (own_bat hD.own)
    have U3 := Hid.mk' hD.u8
    clear HB2 HS2 hD
    go_wp2
    go_ret
    exact ⟨out, p, q, rfl, O3.out, by omega, U3.out, HB3.out⟩

end Go.Proofs.Ytahkneghmgmnbaa
