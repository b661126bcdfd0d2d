/- Walks: the source of draws; one number drawn, one chance, one of several. -/
import Derived.Test.YtmabfeckmklenaaCq
import Derived.Test.YtmabfeckmklenaaSpl
import Derived.Test.YtmabfeckmklenaaWb
namespace Go.Proofs.Ytmabfeckmklenaa
open Go.RowKit
set_option linter.unusedVariables false

/-- A source: its code, and how many draws there were. -/
structure Src (b : Nat) (l : List Int) (k : Nat) (w : World) : Prop where
  row : ∃ a c, w.rowIs b 64 2 (q2 (.slice a l.length c) (.int .i64 k)) ∧ (l = [] ∨ ∃ g o, a = some ⟨g, o, none⟩ ∧ g < b ∧ ∀ i, i < l.length → w.cell? ⟨g, o + i, none⟩ = some (bv l i))
  u8 : ∀ i, i < l.length → 0 ≤ l.getD i 0 ∧ l.getD i 0 ≤ 255

theorem KeptIn.cell {lo hi : Nat} {w w' : World} (h : KeptIn lo hi w w') {p : Addr} (hp : p.block < w.heap.size) (hd : p.block < lo ∨ hi ≤ p.block) : w'.cell? p = w.cell? p :=
  World.cell?_of_block (h.block p.block hp hd)

theorem KeptIn.grown {lo hi : Nat} {w wr w1 : World} {row : Option Nat} (h : KeptIn lo hi w wr) (hg : wr.grownBy w1 row) (hr : ∀ k, row = some k → w.heap.size ≤ k) : KeptIn lo hi w w1 :=
  ⟨hg.os.trans h.os, hg.tape.trans h.tape, hg.output.trans h.output, Nat.le_trans h.size hg.size, fun k hk hc => (hg.block k (Nat.lt_of_lt_of_le hk h.size) (fun e => by have := hr k e.symm; omega)).trans (h.block k hk hc)⟩

theorem Src.lt {b k : Nat} {l : List Int} {w : World} (h : Src b l k w) : b < w.heap.size := by
  obtain ⟨a, c, hr, _⟩ := h.row
  exact hr.lt

theorem Src.kept {b k lo hi : Nat} {l : List Int} {w w' : World} (h : Src b l k w) (hk : KeptIn lo hi w w') (hb : b < lo) : Src b l k w' := by
  have hl := h.lt
  obtain ⟨a, c, hr, hc⟩ := h.row
  refine ⟨⟨a, c, rowK hr hk (.inl hb), ?_⟩, h.u8⟩
  rcases hc with hc | ⟨g, o, e, hg, hc⟩
  · exact .inl hc
  · exact .inr ⟨g, o, e, hg, fun i hi' => (hk.cell (p := ⟨g, o + i, none⟩) (show g < _ by omega) (.inl (show g < _ by omega))).trans (hc i hi')⟩

theorem Src.below {b k : Nat} {l : List Int} {w w' : World} (h : Src b l k w) (hb : Below w.heap.size w w') : Src b l k w' :=
  h.kept (lo := w.heap.size) (hi := w.heap.size) (KeptIn.of_below hb) h.lt

theorem Src.step {b k : Nat} {l : List Int} {w : World} (h : Src b l k w) : Src b l (k + 1) (w.setCell ⟨b, 1, none⟩ (.int .i64 (((k + 1 : Nat)) : Int))) := by
  have hl := h.lt
  obtain ⟨a, c, hr, hc⟩ := h.row
  refine ⟨⟨a, c, (hr.set 1 _).congr (fun i hi => ?_), ?_⟩, h.u8⟩
  · have : i = 0 ∨ i = 1 := by omega
    rcases this with rfl | rfl <;> simp [q2]
  · rcases hc with hc | ⟨g, o, e, hg, hc⟩
    · exact .inl hc
    · refine .inr ⟨g, o, e, hg, fun i hi' => ?_⟩
      have hk : KeptIn b (b + 1) w (w.setCell ⟨b, 1, none⟩ (.int .i64 (((k + 1 : Nat)) : Int))) := (KeptIn.refl _ _ _).setCell (p := ⟨b, 1, none⟩) (Nat.le_refl _) (Nat.lt_succ_self _) _
      exact (hk.cell (p := ⟨g, o + i, none⟩) (show g < _ by omega) (.inl hg)).trans (hc i hi')

theorem kept_at (w : World) (b : Nat) (v : Value) : KeptIn b (b + 1) w (w.setCell ⟨b, 1, none⟩ v) := (KeptIn.refl _ _ _).setCell (p := ⟨b, 1, none⟩) (Nat.le_refl _) (Nat.lt_succ_self _) _

theorem l1Source_any (a : Option Addr) (c : Nat) (l : List Int) (w : World) (ha : BAt w a l) (hu : ∀ i, i < l.length → 0 ≤ l.getD i 0 ∧ l.getD i 0 ≤ 255) :
    Calls Try.prog 20 #[.slice a l.length c] w fun e w' => e = .returned (.pointer (some ⟨w.heap.size, 0, none⟩)) ∧ Src w.heap.size l 0 w' ∧ Below w.heap.size w w' := by
  have N := below_new w (.cells #[.slice a l.length c, .int .i64 0] 64)
  have R := rowQ2 w 64 (.slice a l.length c) (.int .i64 0)
  have S : Hid (Src w.heap.size l 0 (w.alloc (.cells #[.slice a l.length c, .int .i64 0] 64))) := ⟨⟨a, c, R, by
    rcases ha.below N with h | ⟨g, o, e, hg, hc⟩
    · exact .inl h
    · rcases ha with h | ⟨g', o', e', hg', hc'⟩
      · exact .inl h
      · rw [e'] at e; cases e; exact .inr ⟨_, _, e', hg', hc⟩⟩, hu⟩
  have NN := Hid.mk' N
  clear N R ha
  go_enter Try.func20, Try.ntmps20
  go_wp2
  go_ret
  exact ⟨rfl, S.out, NN.out⟩

set_option maxRecDepth 100000 in
set_option maxHeartbeats 2000000 in
theorem l1Next_any (b k : Nat) (l : List Int) (n : Int) (w : World) (h : Src b l k w) (hk : k ≤ 1000000) (hn : 1 ≤ n) (hn2 : n ≤ 1000000000) (hl : (l.length : Int) ≤ 1048576) :
    Calls Try.prog 24 #[.pointer (some ⟨b, 0, none⟩), .int .i64 n] w fun e w' => ∃ v : Int, e = .returned (.int .i64 v) ∧ 0 ≤ v ∧ v < n ∧ Src b l (k + 1) w' ∧ KeptIn b (b + 1) w w' := by
  have S1 := Hid.mk' h.step
  have HK := Hid.mk' (kept_at w b (.int .i64 (((k + 1 : Nat)) : Int)))
  have hlt := h.lt
  have u8 := h.u8
  obtain ⟨a, c, hr, hc⟩ := h.row
  obtain ⟨x0, x1, x2⟩ := cellsQ2 hr
  have f1 := hr.frozen 1
  have e1 : ¬ n < 1 := by omega
  have ek : ((k + 1 : Nat) : Int) = (k : Int) + 1 := by omega
  have n0 : ¬ n = 0 := by omega
  rw [ek] at S1 HK
  clear ek
  by_cases c0 : l = []
  · subst c0
    clear hc u8 hr h
    have r1 := Int.emod_nonneg ((k : Int) * 7) n0
    have r2 := Int.emod_lt_of_pos ((k : Int) * 7) (show 0 < n by omega)
    have ez : (([] : List Int).length : Int) = 0 := rfl
    go_enter Try.func24, Try.ntmps24
    go_wp2
    go_ret
    exact ⟨_, rfl, r1, r2, S1.out, HK.out⟩
  · obtain ⟨g, o, rfl, hg, hcell⟩ : ∃ g o, a = some ⟨g, o, none⟩ ∧ g < b ∧ ∀ i, i < l.length → w.cell? ⟨g, o + i, none⟩ = some (bv l i) := by
      rcases hc with hc | hc
      · exact absurd hc c0
      · exact hc
    have lp : 0 < l.length := List.length_pos_iff.2 c0
    obtain ⟨L, hL⟩ : ∃ L, l.length = L := ⟨_, rfl⟩
    rw [hL] at lp hcell x0 hl u8
    obtain ⟨i, hi⟩ : ∃ i, k % L = i := ⟨_, rfl⟩
    obtain ⟨d, hd⟩ : ∃ d, k / L = d := ⟨_, rfl⟩
    obtain ⟨j, hj⟩ : ∃ j, (k + 1) % L = j := ⟨_, rfl⟩
    have il : i < L := by rw [← hi]; exact Nat.mod_lt _ lp
    have jl : j < L := by rw [← hj]; exact Nat.mod_lt _ lp
    have dk : d ≤ k := by rw [← hd]; exact Nat.div_le_self _ _
    have gi := hcell i il
    have gj := hcell j jl
    obtain ⟨xi, hxi⟩ : ∃ x, l.getD i 0 = x := ⟨_, rfl⟩
    obtain ⟨xj, hxj⟩ : ∃ x, l.getD j 0 = x := ⟨_, rfl⟩
    have ui := u8 i il
    have uj := u8 j jl
    unfold bv at gi gj
    rw [hxi] at gi ui
    rw [hxj] at gj uj
    have ei : (k : Int) % (L : Int) = (i : Int) := by rw [← hi]; omega
    have ed : (k : Int) / (L : Int) = (d : Int) := by rw [← hd]; omega
    have ej : ((k : Int) + 1) % (L : Int) = (j : Int) := by subst hj; simp
    have L0 : ¬ (L : Int) = 0 := by omega
    have Lb : ((L : Int) == 0) = false := by rw [beq_eq_false_iff_ne]; exact L0
    have bne : ¬ b = g := by omega
    have gne : ¬ g = b := by omega
    clear hi hd hj hxi hxj hcell hc u8 hr h c0
    by_cases c2 : 200 < n
    · obtain ⟨v, hv⟩ : ∃ v : Int, (xi + (d : Int) * 37) * 251 + xj * 13 + (k : Int) = v := ⟨_, rfl⟩
      have v0 : 0 ≤ v := by omega
      have v1 : v ≤ 100000000000 := by omega
      have r1 := Int.emod_nonneg v n0
      have r2 := Int.emod_lt_of_pos v (show 0 < n by omega)
      go_enter Try.func24, Try.ntmps24
      go_wp2
      go_region
      go_wp2
      go_region
      go_wp2
      go_ret
      exact ⟨_, rfl, r1, r2, (S1.out.below (Below.refl _ _).drew).below (Below.refl _ _).drew, ⟨HK.out.os, HK.out.tape, HK.out.output, HK.out.size, HK.out.block⟩⟩
    · obtain ⟨v, hv⟩ : ∃ v : Int, xi + (d : Int) * 37 = v := ⟨_, rfl⟩
      have v0 : 0 ≤ v := by omega
      have v1 : v ≤ 100000000000 := by omega
      have r1 := Int.emod_nonneg v n0
      have r2 := Int.emod_lt_of_pos v (show 0 < n by omega)
      go_enter Try.func24, Try.ntmps24
      go_wp2
      go_region
      go_wp2
      go_ret
      exact ⟨_, rfl, r1, r2, S1.out.below (Below.refl _ _).drew, ⟨HK.out.os, HK.out.tape, HK.out.output, HK.out.size, HK.out.block⟩⟩

theorem l1Chance_any (b k : Nat) (l : List Int) (n : Int) (w : World) (h : Src b l k w) (hk : k ≤ 1000000) (hn : 1 ≤ n) (hn2 : n ≤ 1000000000) (hl : (l.length : Int) ≤ 1048576) :
    Calls Try.prog 23 #[.pointer (some ⟨b, 0, none⟩), .int .i64 n] w fun e w' => ∃ v : Bool, e = .returned (.bool v) ∧ Src b l (k + 1) w' ∧ KeptIn b (b + 1) w w' := by
  have K := Hid.mk' (l1Next_any b k l n w h hk hn hn2 hl)
  clear h
  go_enter Try.func23, Try.ntmps23
  go_wp2_with fail
  refine K.out.mono ?_
  rintro e w1 ⟨v, rfl, _, _, hS, hK⟩
  have HS := Hid.mk' hS
  have HK := Hid.mk' hK
  clear K hS hK
  go_wp2
  go_ret
  exact ⟨_, rfl, HS.out, HK.out⟩

/-- Numbers lie at an address. -/
def IAt (w : World) (g : Nat) (l : List Int) : Prop := g < w.heap.size ∧ ∀ i, i < l.length → w.cell? ⟨g, i, none⟩ = some (.int .i64 (l.getD i 0))

set_option maxHeartbeats 400000 in
theorem l1Pick_any (b k g c : Nat) (l xs : List Int) (w : World) (h : Src b l k w) (hx : IAt w g xs) (hg : b ≠ g) (hk : k ≤ 1000000) (hn : 1 ≤ xs.length) (hn2 : xs.length ≤ 1000) (hl : (l.length : Int) ≤ 1048576) :
    Calls Try.prog 35 #[.pointer (some ⟨b, 0, none⟩), .slice (some ⟨g, 0, none⟩) xs.length c] w fun e w' => ∃ i, i < xs.length ∧ e = .returned (.int .i64 (xs.getD i 0)) ∧ Src b l (k + 1) w' ∧ KeptIn b (b + 1) w w' := by
  have K := Hid.mk' (l1Next_any b k l xs.length w h hk (by omega) (by omega) hl)
  have HX := Hid.mk' hx
  clear h hx
  obtain ⟨n, hn'⟩ : ∃ n, xs.length = n := ⟨_, rfl⟩
  rw [hn'] at K hn hn2 ⊢
  go_enter Try.func35, Try.ntmps35
  go_wp2_with fail
  refine K.out.mono ?_
  rintro e w1 ⟨v, rfl, v0, v1, hS, hK⟩
  have HS := Hid.mk' hS
  have HK := Hid.mk' hK
  obtain ⟨i, rfl⟩ : ∃ i : Nat, v = (i : Int) := ⟨v.toNat, by omega⟩
  have il : i < n := by omega
  have hc : w1.cell? ⟨g, i, none⟩ = some (.int .i64 (xs.getD i 0)) := (hK.cell (p := ⟨g, i, none⟩) HX.out.1 (show g < b ∨ b + 1 ≤ g by omega)).trans (HX.out.2 i (by omega))
  generalize hy : xs.getD i 0 = y at hc
  clear K hS hK
  go_wp2
  go_ret
  exact ⟨i, il, by rw [hy]; rfl, HS.out, HK.out⟩

end Go.Proofs.Ytmabfeckmklenaa
