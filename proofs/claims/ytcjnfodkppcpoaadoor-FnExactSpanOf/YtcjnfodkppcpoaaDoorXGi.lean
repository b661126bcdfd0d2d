/- The program's side of a tree's fault: a node in its place. -/
import Derived.Test.YtcjnfodkppcpoaaDoorXGh
namespace Go.Proofs.YtcjnfodkppcpoaaDoor
open Go.RowKit
set_option linter.unusedVariables false
set_option linter.unusedSimpArgs false

/-- The last one is a text, and has that Up. -/
def lastB (l : List ND) (k : Nat) (x : Int) : Bool := decide (0 < k) && (decide (mkK (ndK l (k - 1)) = 2) && decide ((ndK l (k - 1)).up = x))

theorem TT.node {w0 w : World} {base g : Nat} {l : List ND} {pa : Nat → Option Addr} {ca : Nat → Nat} {k : Nat} {vn vw : Value} (h : TT w0 base g l pa ca k vn vw w) (hk : 0 < k) : ∃ b cap, vn = .slice (some ⟨b, 0, none⟩) k cap ∧ base ≤ b ∧ b < w.heap.size ∧ ∀ j, j < k → w.cell? ⟨b, j * 5, none⟩ = some (.int .i64 (mkK (ndK l j))) ∧ w.cell? ⟨b, j * 5 + 1, none⟩ = some (.string (mkS (ndK l j))) ∧ w.cell? ⟨b, j * 5 + 2, none⟩ = some (mkV (ndK l j) (sv l pa ca j)) ∧ w.cell? ⟨b, j * 5 + 3, none⟩ = some (.int .i64 (ndK l j).up) ∧ w.cell? ⟨b, j * 5 + 4, none⟩ = some (.int .i64 (depU (upF l) j : Int)) := by
  obtain ⟨b, cap, e, h1, h2, h3, h4⟩ := own_spot h.on hk
  refine ⟨b, cap, e, h1, h2, fun j hj => ?_⟩
  have q := fun i (hi : i < 5) => (h4 (j * 5 + i) (by omega)).trans (pcs5_get l (sv l pa ca) k j i hj hi)
  exact ⟨q 0 (by omega), q 1 (by omega), q 2 (by omega), q 3 (by omega), q 4 (by omega)⟩

theorem mkV_slice (t : ND) (l : List ND) (pa : Nat → Option Addr) (ca : Nat → Nat) (j : Nat) : ∃ p n c, mkV t (sv l pa ca j) = .slice p n c := by
  unfold mkV sv; split <;> exact ⟨_, _, _, rfl⟩

set_option maxHeartbeats 3200000 in
theorem endsText_any (w0 : World) (base g : Nat) (l : List ND) (pa : Nat → Option Addr) (ca : Nat → Nat) (k : Nat) (vn vw : Value) (x : Int) (w : World) (h : TT w0 base g l pa ca k vn vw w) (hk : k ≤ 60) :
    Calls Tryd.prog 64 #[.pointer (some ⟨g, 0, none⟩), .int .i64 x] w fun e w' => e = .returned (.bool (lastB l k x)) ∧ Below w.heap.size w w' := by
  obtain ⟨c0, c1, c2⟩ := cells2 h.box
  rcases Nat.eq_zero_or_pos k with h0 | h0
  · subst h0
    have e : ∃ a c, vn = .slice a 0 c := by
      rcases h.on.2 with ⟨rfl, _⟩ | ⟨g', cap', cur, rfl, _⟩
      · exact ⟨_, _, rfl⟩
      · exact ⟨_, _, rfl⟩
    obtain ⟨a, c, rfl⟩ := e
    clear h
    go_enter Tryd.func64, Tryd.ntmps64
    go_wp2
    go_ret
    exact ⟨by simp [lastB], Below.refl _ _⟩
  · obtain ⟨b, cap, rfl, h1, h2, h3⟩ := h.node h0
    obtain ⟨j, hj⟩ : ∃ j, k - 1 = j := ⟨_, rfl⟩
    obtain ⟨d0, d1, d2, d3, d4⟩ := h3 j (by omega)
    have E : Hid (lastB l k x = (decide (mkK (ndK l j) = 2) && decide ((ndK l j).up = x))) := Hid.mk' (by unfold lastB; rw [hj, decide_eq_true h0]; rfl)
    have kj : (k : Int) - 1 = (j : Int) := by omega
    have jk : (j : Int) < (k : Int) := by omega
    have KT := Hid.mk' (fun w' => isText_any (mkK (ndK l j)) (mkS (ndK l j)) (mkV (ndK l j) (sv l pa ca j)) w')
    have k0 : ¬ (k : Int) = 0 := by omega
    have wk : IntKind.i64.wrap ((k : Int) - 1) = (j : Int) := by rw [kj]; rw [IntKind.wrap_i64]; omega
    have wj : IntKind.i64.wrap (j : Int) = (j : Int) := by rw [IntKind.wrap_i64]; omega
    have j0 : (0 : Int) ≤ (j : Int) := by omega
    generalize hK : mkK (ndK l j) = K at *
    generalize hS : mkS (ndK l j) = S at *
    obtain ⟨pp, nn, cc, hV⟩ := mkV_slice (ndK l j) l pa ca j
    rw [hV] at d2 KT
    generalize hU : (ndK l j).up = U at *
    clear h h3 hK hS hV hU hj
    have x0 := World.new_ne w ⟨g, 0, none⟩ c0
    have x1 := World.new_ne w ⟨b, j * 5, none⟩ d0
    dsimp only at x0 x1
    go_enter Tryd.func64, Tryd.ntmps64
    go_wp2_with fail
    go_region_held3 (fun w' => w'.cell? ⟨g, 0, none⟩ = some (.slice (some ⟨b, 0, none⟩) k cap) ∧ w'.cell? ⟨b, j * 5, none⟩ = some (.int .i64 K) ∧ w'.cell? ⟨b, j * 5 + 1, none⟩ = some (.string S) ∧ w'.cell? ⟨b, j * 5 + 2, none⟩ = some (.slice pp nn cc) ∧ w'.cell? ⟨b, j * 5 + 3, none⟩ = some (.int .i64 U) ∧ w'.cell? ⟨b, j * 5 + 4, none⟩ = some (.int .i64 (depU (upF l) j : Int))) (go_keep)
      (fail)
    have RR := (row5 w 80 (.int .i64 K) (.string S) (.slice pp nn cc) (.int .i64 U) (.int .i64 (depU (upF l) j : Int))).drew
    have BB := (below_new w (.cells #[.int .i64 K, .string S, .slice pp nn cc, .int .i64 U, .int .i64 (depU (upF l) j : Int)] 80)).drew
    generalize hW : (w.alloc (.cells #[.int .i64 K, .string S, .slice pp nn cc, .int .i64 U, .int .i64 (depU (upF l) j : Int)] 80)).drew = W at *
    obtain ⟨r0, r1, r2, r3_, r4_, r5_⟩ := cells5 RR
    have HR := Hid.mk' RR
    have HB := Hid.mk' BB
    clear hW RR BB c0 c1 d0 d1 d2 d3 d4 x0 x1
    by_cases hk2 : K = 2
    · rw [hk2] at r0 KT E
      rw [decide_eq_true (show (2 : Int) = 2 from rfl)] at KT
      by_cases hu : U = x
      all_goals
        go_wp2_with (first | go_big_skip | (go_at_call 50; refine (KT.out _).mono ?_; rintro e w1 ⟨rfl, hb⟩; obtain ⟨s0, s1, s2, s3_, s4_, s5_⟩ := cells5 (rowB HR.out hb); have HB := Hid.mk' (HB.out.trans (hb.mono HB.out.size)); clear hb))
        go_ret
        exact ⟨by rw [E.out]; simp [hu], HB.out⟩
    · rw [decide_eq_false hk2] at KT
      go_wp2_with (first | go_big_skip | (go_at_call 50; refine (KT.out _).mono ?_; rintro e w1 ⟨rfl, hb⟩; have HB := Hid.mk' (HB.out.trans (hb.mono HB.out.size)); clear hb))
      go_ret
      exact ⟨by rw [E.out]; simp [hk2], HB.out⟩

end Go.Proofs.YtcjnfodkppcpoaaDoor
