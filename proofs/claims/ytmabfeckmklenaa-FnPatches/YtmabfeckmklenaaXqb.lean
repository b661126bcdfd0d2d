/- Two texts that are drawn, the one out of the other: the draw. -/
import Derived.Test.YtmabfeckmklenaaXqa
import Derived.Deep.RegionHeld3
namespace Go.Proofs.Ytmabfeckmklenaa
open Go.RowKit
set_option linter.unusedVariables false
set_option linter.unusedSimpArgs false

/-- Where a draw stands: the source, the first text. -/
structure DD (w : World) (l : List Int) (k : Nat) (A : List Int) (gA cA : Nat) (wi : World) : Prop where
  bl : Below w.heap.size w wi
  src : Src w.heap.size l k wi
  at_ : CAt wi gA 0 A
  lo : w.heap.size < gA
  cap : A.length ≤ cA

theorem DD.below {w : World} {l : List Int} {k : Nat} {A : List Int} {gA cA : Nat} {wi wj : World} (h : DD w l k A gA cA wi) (hb : Below wi.heap.size wi wj) : DD w l k A gA cA wj :=
  ⟨h.bl.trans (hb.mono h.bl.size), h.src.below hb, h.at_.below hb, h.lo, h.cap⟩

theorem cat_kept {w w' : World} {b o lo hi : Nat} {l : List Int} (h : CAt w b o l) (hk : KeptIn lo hi w w') (hd : b < lo ∨ hi ≤ b) : CAt w' b o l :=
  ⟨Nat.lt_of_lt_of_le h.1 hk.size, fun k hk2 => (hk.cell (p := ⟨b, o + k, none⟩) h.1 hd).trans (h.2 k hk2)⟩

theorem DD.drawn {w : World} {l : List Int} {k k' : Nat} {A : List Int} {gA cA : Nat} {wi wj : World} (h : DD w l k A gA cA wi) (hs : Src w.heap.size l k' wj) (hk : KeptIn w.heap.size (w.heap.size + 1) wi wj) : DD w l k' A gA cA wj :=
  ⟨hk.below' w (Nat.le_refl _) h.bl, hs, cat_kept h.at_ hk (by have := h.lo; omega), h.lo, h.cap⟩

theorem DD.grown {w : World} {l : List Int} {k B : Nat} {A : List Int} {gA cA : Nat} {wi wj : World} {row : Option Nat} (h : DD w l k A gA cA wi) (hg : wi.grownBy wj row) (hr : ∀ q, row = some q → B ≤ q) (h1 : w.heap.size < B) (h2 : gA < B) : DD w l k A gA cA wj := by
  have K : KeptIn B wi.heap.size wi wj := ⟨hg.os, hg.tape, hg.output, hg.size, fun j hj hc => hg.block j hj (fun e => by have := hr j e.symm; omega)⟩
  exact ⟨h.bl.grown hg h.bl.size (fun q e => by have := hr q e; omega), h.src.kept K h1, cat_kept h.at_ K (.inl h2), h.lo, h.cap⟩

theorem zerosC (w : World) (n : Nat) : CAt (w.alloc (.cells (madeCells #[.int .u8 0] n) 5)) w.heap.size 0 (List.replicate n 0) := by
  have r := World.rowIs_made w (.int .u8 0) n 5
  refine ⟨r.lt, fun k hk => ?_⟩
  rw [List.length_replicate] at hk
  rw [Nat.zero_add, r.cell hk]
  unfold bv
  simp [hk]

set_option maxRecDepth 100000 in
set_option maxHeartbeats 4000000 in
theorem drawDT_any (a : Option Addr) (c : Nat) (l : List Int) (w : World) (ha : BAt w a l) (hu : ∀ i, i < l.length → 0 ≤ l.getD i 0 ∧ l.getD i 0 ≤ 255) (hl : (l.length : Int) ≤ 1048576) :
    Calls Try.prog 6 #[.slice a l.length c] w fun e w' => ∃ (A B : List Int) (g1 c1 g2 c2 : Nat), e = .returned (.tuple #[.slice (some ⟨g1, 0, none⟩) A.length c1, .slice (some ⟨g2, 0, none⟩) B.length c2]) ∧ CAt w' g1 0 A ∧ CAt w' g2 0 B ∧ A.length ≤ c1 ∧ B.length ≤ c2 ∧ A.length ≤ 1000 ∧ B.length ≤ 1000 ∧ Below w.heap.size w w' := by
  have K := Hid.mk' (l1Source_any a c l w ha hu)
  clear ha hu
  go_enter Try.func6, Try.ntmps6
  go_wp2_with fail
  refine K.out.mono ?_
  rintro e w1 ⟨rfl, hS, hb⟩
  have HB := Hid.mk' hb
  have HS := Hid.mk' hS
  have hlt1 := hS.lt
  clear K hS hb
  go_wp2_with fail
  refine (l1Marked_sm w.heap.size 0 6 l w1 HS.out (by decide) (by decide) (by decide) hl).mono ?_
  rintro e w2 ⟨va, A, k2, rfl, hA, hk2, hD, hsm⟩
  obtain ⟨gA, cA, ev, hcA, hgA, hat⟩ := own_some hD.own hsm
  subst ev
  have D2 : Hid (DD w l k2 A gA cA w2) := Hid.mk' ⟨hD.kept.below' w (Nat.le_refl _) HB.out, hD.src, hat, by omega, hcA⟩
  have s2 := hD.kept.size
  clear HB HS hD hsm hat
  go_wp2_with fail
  refine (l1Copy_sm (some ⟨gA, 0, none⟩) cA A w2 D2.out.at_.at (by omega)).mono ?_
  rintro e w3 ⟨vb, rfl, hsB, hoB, hb3⟩
  obtain ⟨gB, cB, ev, hcB, hgB, hatB⟩ := own_some hoB hsB
  subst ev
  have D3 := Hid.mk' (D2.out.below hb3)
  have CB := Hid.mk' hatB
  have s3 := hb3.size
  clear D2 hsB hoB hb3 hatB
  by_cases hA0 : 0 < A.length
  rotate_left
  · have hA1 : ¬ (0 : Int) < (A.length : Int) := by omega
    go_wp2_with fail
    refine (l1Chance_any w.heap.size k2 l 30 w3 D3.out.src (by omega) (by decide) (by decide) hl).mono ?_
    rintro e wz ⟨vz, rfl, hSz, hKz⟩
    have DZ := Hid.mk' (D3.out.drawn hSz hKz)
    have CZ := Hid.mk' (cat_kept CB.out hKz (.inr (by omega)))
    have yz := hKz.size
    clear D3 CB hSz hKz
    cases vz with
    | true =>
      have hmk : ∀ W : World, (Instr.makeSlice 22 (.int .i64 241) (.int .i64 241)).run Try.prog W = .ok (.slice (some ⟨W.heap.size, 0, none⟩) 241 241) (W.alloc (.cells (madeCells #[.int .u8 0] 241) 5)) := fun W => run_make_row' (P := Try.prog) 22 5 (.int .u8 0) 1 Try.underlying22 Try.info5 rfl .i64 .i64 241 (by omega) (by omega) W
      have ZC := Hid.mk' (zerosC wz 241)
      have DY := Hid.mk' (DZ.out.below (below_new wz (.cells (madeCells #[.int .u8 0] 241) 5)))
      clear DZ CZ
      go_wp2
      refine bodyPost_ret (v := .tuple #[.slice (some ⟨gA, 0, none⟩) A.length cA, .slice (some ⟨wz.heap.size, 0, none⟩) 241 241]) (by simp [results, Try.results6, go_sem, *]) rfl ?_
      exact ⟨A, List.replicate 241 0, gA, cA, wz.heap.size, 241, by rw [List.length_replicate], DY.out.at_, ZC.out, hcA, by rw [List.length_replicate]; omega, by omega, by rw [List.length_replicate]; omega, DY.out.bl⟩
    | false =>
      go_wp2
      refine bodyPost_ret (v := .tuple #[.slice (some ⟨gA, 0, none⟩) A.length cA, .slice (some ⟨gB, 0, none⟩) (A).length cB]) (by simp [results, Try.results6, go_sem, *]) rfl ?_
      exact ⟨A, A, gA, cA, gB, cB, rfl, DZ.out.at_, CZ.out, hcA, hcB, by omega, (by omega), DZ.out.bl⟩
  have hA1 : (0 : Int) < (A.length : Int) := by omega
  go_wp2_with fail
  refine (l1Chance_any w.heap.size k2 l 4 w3 D3.out.src (by omega) (by decide) (by decide) hl).mono ?_
  rintro e w4 ⟨v4, rfl, hS4, hK4⟩
  have D4 := Hid.mk' (D3.out.drawn hS4 hK4)
  have C4 := Hid.mk' (cat_kept CB.out hK4 (.inr (by omega)))
  have y4 := hK4.size
  clear D3 CB hS4 hK4
  cases v4 with
  | true =>
    go_wp2_with fail
    refine (l1Chance_any w.heap.size (k2 + 1) l 30 w4 D4.out.src (by omega) (by decide) (by decide) hl).mono ?_
    rintro e wz ⟨vz, rfl, hSz, hKz⟩
    have DZ := Hid.mk' (D4.out.drawn hSz hKz)
    have CZ := Hid.mk' (cat_kept C4.out hKz (.inr (by omega)))
    have yz := hKz.size
    clear D4 C4 hSz hKz
    cases vz with
    | true =>
      have hmk : ∀ W : World, (Instr.makeSlice 22 (.int .i64 241) (.int .i64 241)).run Try.prog W = .ok (.slice (some ⟨W.heap.size, 0, none⟩) 241 241) (W.alloc (.cells (madeCells #[.int .u8 0] 241) 5)) := fun W => run_make_row' (P := Try.prog) 22 5 (.int .u8 0) 1 Try.underlying22 Try.info5 rfl .i64 .i64 241 (by omega) (by omega) W
      have ZC := Hid.mk' (zerosC wz 241)
      have DY := Hid.mk' (DZ.out.below (below_new wz (.cells (madeCells #[.int .u8 0] 241) 5)))
      clear DZ CZ
      go_wp2
      refine bodyPost_ret (v := .tuple #[.slice (some ⟨gA, 0, none⟩) A.length cA, .slice (some ⟨wz.heap.size, 0, none⟩) 241 241]) (by simp [results, Try.results6, go_sem, *]) rfl ?_
      exact ⟨A, List.replicate 241 0, gA, cA, wz.heap.size, 241, by rw [List.length_replicate], DY.out.at_, ZC.out, hcA, by rw [List.length_replicate]; omega, by omega, by rw [List.length_replicate]; omega, DY.out.bl⟩
    | false =>
      go_wp2
      refine bodyPost_ret (v := .tuple #[.slice (some ⟨gA, 0, none⟩) A.length cA, .slice (some ⟨gB, 0, none⟩) (A).length cB]) (by simp [results, Try.results6, go_sem, *]) rfl ?_
      exact ⟨A, A, gA, cA, gB, cB, rfl, DZ.out.at_, CZ.out, hcA, hcB, by omega, (by omega), DZ.out.bl⟩
  | false =>
    go_wp2_with fail
    refine (l1Next_any w.heap.size (k2 + 1) l (A.length : Int) w4 D4.out.src (by omega) (by omega) (by omega) hl).mono ?_
    rintro e w5 ⟨x, rfl, x0, x1, hS5, hK5⟩
    obtain ⟨x, rfl⟩ : ∃ n : Nat, x = (n : Int) := ⟨x.toNat, by omega⟩
    have D5 := Hid.mk' (D4.out.drawn hS5 hK5)
    clear D4 C4 hS5 hK5
    have j1 : (x : Int) ≤ (cA : Int) := by omega
    have w1' : IntKind.i64.wrap ((A.length : Int) - (x : Int)) = (A.length : Int) - (x : Int) := by rw [IntKind.wrap_i64]; omega
    have y5 := D5.out.at_.1
    have TL : (A.take x).length = x := by rw [List.length_take]; omega
    have K6 := l1Copy_sm (some ⟨gA, 0, none⟩) cA (A.take x) w5 (D5.out.at_.head (by omega)).at (by omega)
    rw [TL] at K6
    have K6 := Hid.mk' K6
    have TLH := Hid.mk' TL
    clear TL
    go_wp2_with fail
    refine K6.out.mono ?_
    rintro e w6 ⟨v6, rfl, sm6, ho6, hb6⟩
    have D6 := Hid.mk' (D5.out.below hb6)
    have O6 := Hid.mk' ho6
    have S6 := Hid.mk' sm6
    have y6 := hb6.size
    clear D5 ho6 sm6 hb6 K6
    go_wp2_with fail
    refine (l1Marked_sm w.heap.size (k2 + 1 + 1) 3 l w6 D6.out.src (by omega) (by decide) (by decide) hl).mono ?_
    rintro e w7 ⟨v7, M, k7, rfl, hM, hk7, hD7, sm7⟩
    obtain ⟨g7, c7, ev, _, hg7, hat7⟩ := own_some hD7.own sm7
    subst ev
    have y7 := hD7.kept.size
    have D7 := Hid.mk' (D6.out.drawn hD7.src hD7.kept)
    have O7 := Hid.mk' (own_kept O6.out hD7.kept (by omega))
    have M7 := Hid.mk' hat7
    obtain ⟨p6, q6, ev6⟩ := own_form O7.out
    subst ev6
    clear D6 O6 hD7 sm7 hat7
    have j2 : (0 : Int) ≤ (x : Int) := by omega
    go_wp2_with (first
      | (at_builtin; refine wpList_append_at _ rfl (.tmp 29) (.tmp 31) 22 rfl w5.heap.size 5 (.int .u8 0) 1 1 Try.underlying22 Try.info5 rfl (by decide) _ x _ rfl O7.out _ M.length c7 (bcs M) rfl (bcs_len M) M7.out.at.src (bcs_one M) (by unfold maxLen; omega) (by omega) (by omega) ?_; intro v8 w8 ho8 hg8 hat8; have D8 := Hid.mk' (D7.out.grown hg8 (fun k hk => own_lo O7.out k hk) (by omega) (by omega)); have O8 := Hid.mk' ho8; have S8 := Hid.mk' (S6.out.next hat8); have y8 := hg8.size; clear ho8 hg8 hat8 D7 O7 M7)
      | fail)
    refine (l1Next_any w.heap.size k7 l ((A.length : Int) - (x : Int)) w8 D8.out.src (by omega) (by omega) (by omega) hl).mono ?_
    rintro e w9 ⟨y, rfl, y0, y1, hS9, hK9⟩
    obtain ⟨y, rfl⟩ : ∃ n : Nat, y = (n : Int) := ⟨y.toNat, by omega⟩
    have D9 := Hid.mk' (D8.out.drawn hS9 hK9)
    have O9 := Hid.mk' (own_kept O8.out hK9 (by omega))
    have y9 := hK9.size
    obtain ⟨p8, q8, ev8⟩ := own_form O9.out
    subst ev8
    clear D8 O8 hS9 hK9
    have wxy : IntKind.i64.wrap ((x : Int) + (y : Int)) = ((x + y : Nat) : Int) := by rw [IntKind.wrap_i64]; omega
    have j3 : (0 : Int) ≤ ((x + y : Nat) : Int) := by omega
    have j4 : ((x + y : Nat) : Int) ≤ (A.length : Int) := by omega
    have j5 : ¬ cA = x + y := by omega
    have DL : Hid ((bcs (A.drop (x + y))).length = (A.length - (x + y)) * 1) := Hid.mk' (by rw [bcs_len, List.length_drop])
    obtain ⟨z, hz⟩ : ∃ z, x + y = z := ⟨_, rfl⟩
    rw [hz] at wxy j3 j4 j5 DL
    have hzl : z < A.length := by omega
    have T9 := Hid.mk' ((D9.out.at_.tail (f := z) (by omega)))
    go_wp2_with (first
      | (at_builtin; refine wpList_append_at _ rfl (.tmp 32) (.tmp 42) 22 rfl w5.heap.size 5 (.int .u8 0) 1 1 Try.underlying22 Try.info5 rfl (by decide) _ (x + M.length) _ rfl O9.out _ (A.length - z) _ (bcs (A.drop z)) rfl DL.out (by have := T9.out.at.src; rw [List.length_drop, Nat.zero_add] at this; exact this) (bcs_one _) (by unfold maxLen; omega) (by omega) (by omega) ?_; intro v10 w10 ho10 hg10 hat10; have D10 := Hid.mk' (D9.out.grown hg10 (fun k hk => own_lo O9.out k hk) (by omega) (by omega)); have O10 := Hid.mk' ho10; have S10 := Hid.mk' (S8.out.next hat10); have y10 := hg10.size; clear ho10 hg10 hat10 D9 O9 T9)
      | fail)
    obtain ⟨B', hB'⟩ : ∃ B', A.take x ++ M ++ A.drop z = B' := ⟨_, rfl⟩
    have e1 : x + M.length + (A.length - z) = B'.length := by rw [← hB', List.length_append, List.length_append, List.length_drop, TLH.out]
    have e2 : bcs (A.take x) ++ bcs M ++ bcs (A.drop z) = bcs B' := by rw [← hB', bcs_append, bcs_append]
    have o10 := O10.out
    rw [e1, e2] at o10
    obtain ⟨g10, c10, ev, hc10, hg10, hat10⟩ := own_some o10 S10.out
    subst ev
    have C10 := Hid.mk' hat10
    clear O10 o10 S10 hat10 e2 hB'
    refine (l1Chance_any w.heap.size (k7 + 1) l 30 w10 D10.out.src (by omega) (by decide) (by decide) hl).mono ?_
    rintro e wz ⟨vz, rfl, hSz, hKz⟩
    have DZ := Hid.mk' (D10.out.drawn hSz hKz)
    have CZ := Hid.mk' (cat_kept C10.out hKz (.inr (by omega)))
    have yz := hKz.size
    clear D10 C10 hSz hKz
    cases vz with
    | true =>
      have hmk : ∀ W : World, (Instr.makeSlice 22 (.int .i64 241) (.int .i64 241)).run Try.prog W = .ok (.slice (some ⟨W.heap.size, 0, none⟩) 241 241) (W.alloc (.cells (madeCells #[.int .u8 0] 241) 5)) := fun W => run_make_row' (P := Try.prog) 22 5 (.int .u8 0) 1 Try.underlying22 Try.info5 rfl .i64 .i64 241 (by omega) (by omega) W
      have ZC := Hid.mk' (zerosC wz 241)
      have DY := Hid.mk' (DZ.out.below (below_new wz (.cells (madeCells #[.int .u8 0] 241) 5)))
      clear DZ CZ
      go_wp2
      refine bodyPost_ret (v := .tuple #[.slice (some ⟨gA, 0, none⟩) A.length cA, .slice (some ⟨wz.heap.size, 0, none⟩) 241 241]) (by simp [results, Try.results6, go_sem, *]) rfl ?_
      exact ⟨A, List.replicate 241 0, gA, cA, wz.heap.size, 241, by rw [List.length_replicate], DY.out.at_, ZC.out, hcA, by rw [List.length_replicate]; omega, by omega, by rw [List.length_replicate]; omega, DY.out.bl⟩
    | false =>
      go_wp2
      refine bodyPost_ret (v := .tuple #[.slice (some ⟨gA, 0, none⟩) A.length cA, .slice (some ⟨g10, 0, none⟩) (B').length c10]) (by simp [results, Try.results6, go_sem, *]) rfl ?_
      exact ⟨A, B', gA, cA, g10, c10, rfl, DZ.out.at_, CZ.out, hcA, hc10, by omega, (by omega), DZ.out.bl⟩

end Go.Proofs.Ytmabfeckmklenaa
