/- Walks: a table copied by the program. -/
import Derived.Test.YtahkneghmgmnbaaWm
namespace Go.Proofs.Ytahkneghmgmnbaa
open Go.RowKit
set_option linter.unusedVariables false

set_option maxRecDepth 100000 in
set_option maxHeartbeats 2000000 in
theorem implCopy_any (v : Value) (t : TB) (w : World) (ht : TAt w v t) (hl : (t.base.length : Int) + t.more.length + t.pcs.length ≤ 1048576) :
    Calls Try.prog 36 #[v] w fun e w' => ∃ s1 s2 s3, e = .returned (.agg #[s1, s2, s3]) ∧ OT w.heap.size w'.heap.size w' s1 s2 s3 t ∧ Below w.heap.size w w' := by
  obtain ⟨a1, a2, a3, c1, c2, c3, rfl, h1, h2, h3⟩ := ht
  have B0 := ((Below.refl w.heap.size w).alloc (Nat.le_refl _) (.cells #[.slice a1 t.base.length c1, .slice a2 t.more.length c2, .slice a3 t.pcs.length c3] 26)).alloc (by simp) (.cells #[.slice none 0 0, .slice none 0 0, .slice none 0 0] 26)
  have R0 := (row3 w 26 (.slice a1 t.base.length c1) (.slice a2 t.more.length c2) (.slice a3 t.pcs.length c3)).alloc (.cells #[.slice none 0 0, .slice none 0 0, .slice none 0 0] 26)
  obtain ⟨x0, x1, x2, x3⟩ := cells3 R0
  have R1 := row3 (w.alloc (.cells #[.slice a1 t.base.length c1, .slice a2 t.more.length c2, .slice a3 t.pcs.length c3] 26)) 26 (.slice none 0 0) (.slice none 0 0) (.slice none 0 0)
  simp only [World.heap_size_alloc'] at R1
  obtain ⟨s0, s1, s2, s3⟩ := cells3 R1
  have g0 := R1.frozen 0
  have g1 := R1.frozen 1
  have g2 := R1.frozen 2
  clear R1 R0
  have BB := Hid.mk' B0
  generalize hw0 : (w.alloc (.cells #[.slice a1 t.base.length c1, .slice a2 t.more.length c2, .slice a3 t.pcs.length c3] 26)).alloc (.cells #[.slice none 0 0, .slice none 0 0, .slice none 0 0] 26) = w0 at *
  go_enter Try.func36, Try.ntmps36
  go_wp2
  clear hw0
  have zz := BB.out.size
  have k1 : (t.base.length : Int) ≤ 1048576 := by omega
  have k2 : (t.more.length : Int) ≤ 1048576 := by omega
  have k3 : (t.pcs.length : Int) ≤ 1048576 := by omega
  go_region_held3 (fun w' => w'.cell? ⟨w.heap.size, 0, none⟩ = some (.slice a1 t.base.length c1) ∧ w'.cell? ⟨w.heap.size, 1, none⟩ = some (.slice a2 t.more.length c2) ∧ w'.cell? ⟨w.heap.size, 2, none⟩ = some (.slice a3 t.pcs.length c3) ∧ w'.frozen? ⟨w.heap.size + 1, 0, none⟩ = false ∧ w'.frozen? ⟨w.heap.size + 1, 1, none⟩ = false ∧ w'.frozen? ⟨w.heap.size + 1, 2, none⟩ = false) (simp [*, go_sem])
    (first | (go_at_call_of 39 (Value.slice a1 t.base.length c1); refine (copyBytes_any a1 c1 t.base _ ?_ k1).mono ?_; (focus (refine BAt.below h1 ?_; repeat (first | assumption | exact BB.out | refine Below.drew ?_ | omega | (simp; done) | (simp; omega)))); rintro e w1 ⟨b1, rfl, l1, r1, hb1⟩; replace hb1 := undrew hb1; obtain ⟨hx1, hy1⟩ := bcell hb1; have z1 := hb1.size; have G1 : Below w.heap.size w w1 := ?_; rotate_left; (focus (refine Below.trans ?_ (Below.mono hb1 ?_); repeat (first | assumption | exact BB.out | refine Below.drew ?_ | omega | (simp; done) | (simp; omega)))); have y1 : w.heap.size < w1.heap.size := ?_; rotate_left; (focus omega); have yy1 : w.heap.size + 1 < w1.heap.size := ?_; rotate_left; (focus omega)) | (go_at_call_of 39 (Value.slice a2 t.more.length c2); refine (copyBytes_any a2 c2 t.more _ ?_ k2).mono ?_; (focus (refine BAt.below h2 ?_; repeat (first | assumption | exact BB.out | refine Below.drew ?_ | omega | (simp; done) | (simp; omega)))); rintro e w2 ⟨b2, rfl, l2, r2, hb2⟩; obtain ⟨hx2, hy2⟩ := bcell hb2; have z2 := hb2.size; have G2 : Below w.heap.size w w2 := ?_; rotate_left; (focus (refine Below.trans ?_ (Below.mono hb2 ?_); repeat (first | assumption | exact BB.out | refine Below.drew ?_ | omega | (simp; done) | (simp; omega)))); have y2 : w.heap.size < w2.heap.size := ?_; rotate_left; (focus omega); have yy2 : w.heap.size + 1 < w2.heap.size := ?_; rotate_left; (focus omega)) | (go_at_call 37; refine (chainOf_any a3 c3 t.pcs _ ?_ k3).mono ?_; (focus (refine PAt.below h3 ?_; repeat (first | assumption | exact BB.out | refine Below.drew ?_ | omega | (simp; done) | (simp; omega)))); rintro e w3 ⟨b3, rfl, l3, r3', hb3⟩; obtain ⟨hx3, hy3⟩ := bcell hb3; have z3 := hb3.size; have G3 : Below w.heap.size w w3 := ?_; rotate_left; (focus (refine Below.trans ?_ (Below.mono hb3 ?_); repeat (first | assumption | exact BB.out | refine Below.drew ?_ | omega | (simp; done) | (simp; omega)))); have y3 : w.heap.size < w3.heap.size := ?_; rotate_left; (focus omega); have yy3 : w.heap.size + 1 < w3.heap.size := ?_; rotate_left; (focus omega)) | (go_at_call 41; refine (piecesOf_any _ _ t.pcs _ (.of_row r3') k3).mono ?_; rintro e w4 ⟨b4, rfl, l4, r4', hb4⟩; obtain ⟨hx4, hy4⟩ := bcell hb4; have z4 := hb4.size; have G4 : Below w.heap.size w w4 := ?_; rotate_left; (focus (refine Below.trans ?_ (Below.mono hb4 ?_); repeat (first | assumption | exact BB.out | refine Below.drew ?_ | omega | (simp; done) | (simp; omega))))))
  all_goals
    have Q1 := Hid.mk' (rowB (rowB (rowB r1 hb2) hb3) hb4)
    have Q2 := Hid.mk' (rowB (rowB r2 hb3) hb4)
    have Q3 := Hid.mk' r4'
    have GG := Hid.mk' G4
    have u1 := r1.lt
    have u2 := r2.lt
    have u4 := r4'.lt
    have dz : w0.drew.heap.size = w0.heap.size := rfl
    clear r1 r2 r3' r4' G1 G2 G3 G4 hb1 hb2 hb3 hb4 B0 h1 h2 h3
    go_wp2
    refine bodyPost_ret (v := .agg #[.slice (some ⟨b1, 0, none⟩) t.base.length t.base.length, .slice (some ⟨b2, 0, none⟩) t.more.length t.more.length, .slice (some ⟨b4, 0, none⟩) t.pcs.length t.pcs.length]) (by simp [results, Try.results36, go_sem, *]) rfl ⟨_, _, _, rfl, ?_, ?_⟩
    · have hk := kept3 w4 (w.heap.size + 1) 0 1 2 (.slice (some ⟨b1, 0, none⟩) t.base.length t.base.length) (.slice (some ⟨b2, 0, none⟩) t.more.length t.more.length) (.slice (some ⟨b4, 0, none⟩) t.pcs.length t.pcs.length)
      have A1 := rowK Q1.out hk (by omega)
      have A2 := rowK Q2.out hk (by omega)
      have A3 := rowK Q3.out hk (by omega)
      exact ⟨ob_of_row rfl A1, ob_of_row rfl A2, .inr ⟨b4, _, _, _, rfl, Nat.le_refl _, A3, ⟨rfl, by unfold maxLen; omega⟩, fun _ _ => rfl⟩,
        In.at (by omega) A1.lt, In.at (by omega) A2.lt, In.at (by omega) A3.lt,
        fun k e e' => by simp [Value.ownBlock] at e e'; omega, fun k e e' => by simp [Value.ownBlock] at e e'; omega, fun k e e' => by simp [Value.ownBlock] at e e'; omega⟩
    · have hk := kept3 w4 (w.heap.size + 1) 0 1 2 (.slice (some ⟨b1, 0, none⟩) t.base.length t.base.length) (.slice (some ⟨b2, 0, none⟩) t.more.length t.more.length) (.slice (some ⟨b4, 0, none⟩) t.pcs.length t.pcs.length)
      exact GG.out.trans (hk.below (B := w.heap.size) (by omega) (by omega))

end Go.Proofs.Ytahkneghmgmnbaa
