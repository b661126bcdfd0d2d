/- Walks: a table copied by the program and by the model; places within bounds. -/
import Derived.Test.YtahkneghmgmnbaaWl
namespace Go.Proofs.Ytahkneghmgmnbaa
open Go.RowKit
set_option linter.unusedVariables false

set_option maxHeartbeats 400000 in
theorem piecesOf_any (a : Option Addr) (c : Nat) (l : List PC) (w : World) (ha : PAt w a l) (hl : (l.length : Int) ≤ 1048576) :
    Calls Try.prog 41 #[.slice a l.length c] w fun e w' => ∃ b, e = .returned (.slice (some ⟨b, 0, none⟩) l.length l.length) ∧ w.heap.size ≤ b ∧ w'.rowIs b 72 (l.length * 3) (pv l) ∧ Below w.heap.size w w' := by
  have hmk := make_pieces (P := Try.prog) 24 72 Try.underlying24 Try.info72 l.length hl
  go_enter Try.func41, Try.ntmps41
  go_wp2
  go_loopw [11] (fun i wr => ∃ k : Nat, k ≤ l.length ∧ i = .int .i64 k ∧ wr.rowIs w.heap.size 72 (l.length * 3) (ppart l k) ∧ Below w.heap.size w wr) (fun i _ => l.length - (intOf i).toNat)
  case atStart => exact ⟨0, Nat.zero_le _, rfl, row_ppart_start w 72 l _, (Below.refl _ _).alloc (Nat.le_refl _) _⟩
  case round =>
    obtain ⟨k, hk, rfl, hrow, hbl⟩ := hrel
    by_cases hlt : k < l.length
    · rcases ha with ha | ⟨b, o, rfl, hbs, hc⟩
      · exact absurd hlt (by rw [ha]; exact Nat.not_lt_zero _)
      obtain ⟨hc1, hc2, hc3⟩ := hc k hlt
      have h1 : wr.cell? ⟨b, o + k * 3, none⟩ = some (.bool (pc l k).ad) := (hbl.cell hbs).trans hc1
      have h2 : wr.cell? ⟨b, o + k * 3 + 1, none⟩ = some (.int .i64 (pc l k).fr) := (hbl.cell hbs).trans hc2
      have h3 : wr.cell? ⟨b, o + k * 3 + 2, none⟩ = some (.int .i64 (pc l k).sz) := (hbl.cell hbs).trans hc3
      have f0 := hrow.frozen (k * 3)
      have f1 := hrow.frozen (k * 3 + 1)
      have f2 := hrow.frozen (k * 3 + 2)
      obtain ⟨v0, g0⟩ : ∃ v, wr.cell? ⟨w.heap.size, k * 3, none⟩ = some v := ⟨_, hrow.cell (by omega)⟩
      obtain ⟨v1, g1⟩ : ∃ v, wr.cell? ⟨w.heap.size, k * 3 + 1, none⟩ = some v := ⟨_, hrow.cell (by omega)⟩
      obtain ⟨v2, g2⟩ : ∃ v, wr.cell? ⟨w.heap.size, k * 3 + 2, none⟩ = some v := ⟨_, hrow.cell (by omega)⟩
      have y := hrow.lt
      have R1 := Hid.mk' hrow
      have R2 := Hid.mk' hbl
      clear hc hc1 hc2 hc3 hrow hbl hmk
      go_wp2
      go_roundw
      case rel => exact ⟨k + 1, by omega, by go_num, (row_ppart_step R1.out).alloc _, (below_three R2.out).alloc (by simp; omega) _⟩
      case measure => simp [intOf]; omega
    · go_wp2
      go_ret
      have e : k = l.length := by omega
      subst e
      exact ⟨_, rfl, Nat.le_refl _, row_ppart_end hrow, hbl⟩

set_option maxHeartbeats 400000 in
theorem l1In_any (v lo hi : Int) (w : World) :
    Calls Try.prog 50 #[.int .i64 v, .int .i64 lo, .int .i64 hi] w fun e w' => e = .returned (.bool (decide (lo ≤ v) && decide (v ≤ hi))) ∧ w' = w := by
  by_cases d1 : lo ≤ v
  · rw [show (decide (lo ≤ v) && decide (v ≤ hi)) = decide (v ≤ hi) from by simp [d1]]
    go_enter Try.func50, Try.ntmps50
    go_wp2
    go_ret
    exact ⟨rfl, rfl⟩
  · have d4 : decide (lo ≤ v) = false := by simpa using d1
    rw [show (decide (lo ≤ v) && decide (v ≤ hi)) = false from by simp [d4]]
    clear d1
    go_enter Try.func50, Try.ntmps50
    go_wp2
    go_ret
    exact ⟨rfl, rfl⟩

theorem own_base {w : World} {base base' : Nat} {e : TypeId} {size : Nat} {v : Value} {n : Nat} {xs : List Value} (h : w.ownsRow base e size v n xs) (hb : base' ≤ base) : w.ownsRow base' e size v n xs := by
  obtain ⟨h0, h | ⟨g, cap, cur, rfl, hg, h1, h2, h3, h4, h5⟩⟩ := h
  · exact ⟨h0, .inl h⟩
  · exact ⟨h0, .inr ⟨g, cap, cur, rfl, Nat.le_trans hb hg, h1, h2, h3, h4, h5⟩⟩

theorem own_blocks {w w' : World} {base : Nat} {e : TypeId} {size : Nat} {v : Value} {n : Nat} {xs : List Value} (h : w.ownsRow base e size v n xs) (hk : ∀ k, v.ownBlock = some k → k < w.heap.size → w'.heap[k]? = w.heap[k]?) : w'.ownsRow base e size v n xs := by
  have hlt := h.lt
  obtain ⟨h0, h | ⟨g, cap, cur, rfl, hg, h1, h2, h3, h4, h5⟩⟩ := h
  · exact ⟨h0, .inl h⟩
  · exact ⟨h0, .inr ⟨g, cap, cur, rfl, hg, (hk g rfl (hlt g rfl).2).trans h1, h2, h3, h4, h5⟩⟩

/-- What the model's copy of a table comes to, whatever the order in which its parts are made. -/
theorem copy_close {w w2 W w3 : World} {g A1 E1 A2 E2 : Nat} {s1 s2 s3 : Value} {t : TB} {row : Option Nat} (o1 : OB w2 s1 t.base) (o2 : OB w2 s2 t.more) (ow2 : w2.ownsRow A2 5 1 s2 t.more.length (bcs t.more)) (o3 : OP w3 s3 t.pcs) (i1 : In A1 E1 s1) (i2 : In A2 E2 s2)
    (hg : W.grownBy w3 row) (hrow : row = some g) (hat : s3.ownBlock = row ∨ s3.ownBlock = some W.heap.size) (hw : ∀ k, k < w2.heap.size → W.heap[k]? = w2.heap[k]?) (hWs : w2.heap.size ≤ W.heap.size)
    (e1 : g < A1 ∨ E1 ≤ g) (e2 : g < A2 ∨ E2 ≤ g) (e12 : E1 ≤ A2) (f1 : w.heap.size + 2 ≤ A1) (f2 : w.heap.size + 2 ≤ A2) (fg : w.heap.size + 2 ≤ g) (E1w : E1 ≤ w2.heap.size) (E2w : E2 ≤ w2.heap.size) (fw : w.heap.size + 2 ≤ w2.heap.size) :
    OT w.heap.size (((w3.setCell ⟨w.heap.size + 1, 0, none⟩ s1).setCell ⟨w.heap.size + 1, 1, none⟩ s2).setCell ⟨w.heap.size + 1, 2, none⟩ s3).heap.size (((w3.setCell ⟨w.heap.size + 1, 0, none⟩ s1).setCell ⟨w.heap.size + 1, 1, none⟩ s2).setCell ⟨w.heap.size + 1, 2, none⟩ s3) s1 s2 s3 t ∧ (((w3.setCell ⟨w.heap.size + 1, 0, none⟩ s1).setCell ⟨w.heap.size + 1, 1, none⟩ s2).setCell ⟨w.heap.size + 1, 2, none⟩ s3).ownsRow w.heap.size 5 1 s2 t.more.length (bcs t.more) := by
  have k3 : ∀ k, k < w2.heap.size → k ≠ g → w3.heap[k]? = w2.heap[k]? := fun k hk hne => (hg.block k (by omega) (by rw [hrow]; intro e; cases e; exact hne rfl)).trans (hw k hk)
  have hk := kept3 w3 (w.heap.size + 1) 0 1 2 s1 s2 s3
  have hs := hk.size
  have hs3 := hg.size
  have b3 : ∀ k, s3.ownBlock = some k → k = g ∨ k = W.heap.size := by
    intro k hk'
    rcases hat with h | h
    · rw [hrow, hk'] at h; left; cases h; rfl
    · rw [hk'] at h; right; cases h; rfl
  refine ⟨?_, own_base (own_blocks (own_blocks ow2 fun k e hl => k3 k hl (by have := i2 k e; omega)) fun k e hl => hk.block k hl (by have := i2 k e; omega)) (by omega)⟩
  refine ⟨(o1.keep fun k e hl => k3 k hl (by have := i1 k e; omega)).keep fun k e hl => hk.block k hl (by have := i1 k e; omega), (o2.keep fun k e hl => k3 k hl (by have := i2 k e; omega)).keep fun k e hl => hk.block k hl (by have := i2 k e; omega),
    o3.keep fun k e hl => hk.block k hl (by have := b3 k e; omega), i1.mono (by omega) (by omega), i2.mono (by omega) (by omega), fun k e => ?_, Ap.of_in i1 (i2.mono e12 (Nat.le_refl _)), fun k e e' => ?_, fun k e e' => ?_⟩
  · have h1 := b3 k e
    have h2 := o3.lt k e
    exact ⟨by omega, by omega⟩
  · have h1 := b3 k e'
    have h2 := i1 k e
    omega
  · have h1 := b3 k e'
    have h2 := i2 k e
    omega

set_option maxRecDepth 100000 in
set_option maxHeartbeats 2000000 in
theorem specCopy_own (v : Value) (t : TB) (w : World) (ht : TAt w v t) (hl : (t.base.length : Int) + t.more.length + t.pcs.length ≤ 1048576) :
    Calls Try.prog 51 #[v] w fun e w' => ∃ s1 s2 s3, e = .returned (.agg #[s1, s2, s3]) ∧ (OT w.heap.size w'.heap.size w' s1 s2 s3 t ∧ w'.ownsRow w.heap.size 5 1 s2 t.more.length (bcs t.more)) ∧ Below w.heap.size w w' := by
  obtain ⟨a1, a2, a3, c1, c2, c3, rfl, h1, h2, h3⟩ := ht
  have B0 := ((Below.refl w.heap.size w).alloc (Nat.le_refl _) (.cells #[.slice a1 t.base.length c1, .slice a2 t.more.length c2, .slice a3 t.pcs.length c3] 26)).alloc (by simp) (.cells #[.slice none 0 0, .slice none 0 0, .slice none 0 0] 26)
  have R0 := (row3 w 26 (.slice a1 t.base.length c1) (.slice a2 t.more.length c2) (.slice a3 t.pcs.length c3)).alloc (.cells #[.slice none 0 0, .slice none 0 0, .slice none 0 0] 26)
  obtain ⟨x0, x1, x2, x3⟩ := cells3 R0
  have R1 := row3 (w.alloc (.cells #[.slice a1 t.base.length c1, .slice a2 t.more.length c2, .slice a3 t.pcs.length c3] 26)) 26 (.slice none 0 0) (.slice none 0 0) (.slice none 0 0)
  simp only [World.heap_size_alloc'] at R1
  obtain ⟨s0, s1, s2, s3⟩ := cells3 R1
  have g0 := R1.frozen 0
  have g1 := R1.frozen 1
  have g2 := R1.frozen 2
  clear R1 R0
  have BB := Hid.mk' B0
  generalize hw0 : (w.alloc (.cells #[.slice a1 t.base.length c1, .slice a2 t.more.length c2, .slice a3 t.pcs.length c3] 26)).alloc (.cells #[.slice none 0 0, .slice none 0 0, .slice none 0 0] 26) = w0 at *
  go_enter Try.func51, Try.ntmps51
  go_wp2
  clear hw0
  have hbd : ∀ (p1 p2 p3 : Option Addr) (q1 q2 q3 : Nat) (w : World), (Instr.build 26 #[(0, .slice p1 t.base.length q1), (1, .slice p2 t.more.length q2), (2, .slice p3 t.pcs.length q3)]).run Try.prog w = .ok (.agg #[.slice p1 t.base.length q1, .slice p2 t.more.length q2, .slice p3 t.pcs.length q3]) w := fun _ _ _ _ _ _ _ => by go_simp
  have zz := BB.out.size
  have k1 : (t.base.length : Int) ≤ 1048576 := by omega
  have k2 : (t.more.length : Int) ≤ 1048576 := by omega
  have k3 : 0 + t.pcs.length ≤ maxLen := by unfold maxLen; omega
  have k4 : (0 + t.pcs.length) * 24 ≤ 140737488355328 := by omega
  have k5 : (0 : Nat) ≤ maxLen := Nat.zero_le _
  go_region_held3 (fun w' => w'.cell? ⟨w.heap.size, 0, none⟩ = some (.slice a1 t.base.length c1) ∧ w'.cell? ⟨w.heap.size, 1, none⟩ = some (.slice a2 t.more.length c2) ∧ w'.cell? ⟨w.heap.size, 2, none⟩ = some (.slice a3 t.pcs.length c3) ∧ w'.frozen? ⟨w.heap.size + 1, 0, none⟩ = false ∧ w'.frozen? ⟨w.heap.size + 1, 1, none⟩ = false ∧ w'.frozen? ⟨w.heap.size + 1, 2, none⟩ = false) (simp [*, go_sem, World.cell?_alloc_past])
    (first | (go_at_call_of 61 (Value.slice a1 t.base.length c1); refine (l1Copy_any a1 c1 t.base _ ?_ k1).mono ?_; (focus (refine BAt.below h1 ?_; repeat (first | assumption | exact BB.out | refine Below.drew ?_ | refine Below.alloc ?_ ?_ _ | omega | (simp; done) | (simp; omega)))); rintro e w1 ⟨v1, rfl, o1, i1, hb1⟩; obtain ⟨p1, q1, rfl, bx1⟩ := o1.len; clear bx1; replace hb1 := undrew hb1; obtain ⟨hx1, hy1⟩ := bcell hb1; have z1 := hb1.size; have G1 : Below w.heap.size w w1 := ?_; rotate_left; (focus (refine Below.trans ?_ (Below.mono hb1 ?_); repeat (first | assumption | exact BB.out | refine Below.drew ?_ | refine Below.alloc ?_ ?_ _ | omega | (simp; done) | (simp; omega)))); have y1 : w.heap.size < w1.heap.size := ?_; rotate_left; (focus (first | omega | (simp at z1; omega))); have yy1 : w.heap.size + 1 < w1.heap.size := ?_; rotate_left; (focus (first | omega | (simp at z1; omega))); (try simp at hx1); (try simp at hy1)) | (go_at_call_of 61 (Value.slice a2 t.more.length c2); refine (l1Copy_own a2 c2 t.more _ ?_ k2).mono ?_; (focus (refine BAt.below h2 ?_; repeat (first | assumption | exact BB.out | refine Below.drew ?_ | refine Below.alloc ?_ ?_ _ | omega | (simp; done) | (simp; omega)))); rintro e w2 ⟨v2, rfl, ow2, hb2⟩; have i2 : In _ w2.heap.size v2 := (fun k hk => ⟨(OB.of_own ow2).2 k hk, (OB.of_own ow2).1.lt k hk⟩); have o2 := (OB.of_own ow2).1; have OW2 := Hid.mk' ow2; clear ow2; obtain ⟨p2, q2, rfl, bx2⟩ := o2.len; clear bx2; obtain ⟨hx2, hy2⟩ := bcell hb2; have z2 := hb2.size; have G2 : Below w.heap.size w w2 := ?_; rotate_left; (focus (refine Below.trans ?_ (Below.mono hb2 ?_); repeat (first | assumption | exact BB.out | refine Below.drew ?_ | refine Below.alloc ?_ ?_ _ | omega | (simp; done) | (simp; omega)))); have y2 : w.heap.size < w2.heap.size := ?_; rotate_left; (focus (first | omega | (simp at z2; omega))); have yy2 : w.heap.size + 1 < w2.heap.size := ?_; rotate_left; (focus (first | omega | (simp at z2; omega))); (try simp at hx2); (try simp at hy2)) | (refine step_append_at rfl (.tmp 9) (.tmp 11) 24 rfl w.heap.size 72 (.agg #[.bool false, .int .i64 0, .int .i64 0]) 3 24 Try.underlying24 Try.info72 rfl (Nat.succ_pos 2) _ 0 [] rfl ?_ a3 t.pcs.length c3 (pcs t.pcs) rfl (pcs_len _) ?_ (pcs_one _) k3 k4 ?_ ?_; (focus (first | exact (World.ownsRow_lit w2 #[] 0 G2.size k5 rfl) | exact own_keep (World.ownsRow_lit w1 #[] 0 G1.size k5 rfl) hb2 | exact own_keep (own_keep (World.ownsRow_lit w0 #[] 0 zz k5 rfl) hb1) hb2)); (focus (refine PAt.src ?_; refine PAt.below h3 ?_; repeat (first | assumption | exact BB.out | refine Below.drew ?_ | refine Below.alloc ?_ ?_ _ | omega | (simp; done) | (simp; omega)))); (focus (first | exact G2.size | omega | (simp; done) | (simp; omega))); intro v3 w3 ho3 hg3 hat3; have hx3 := grown_cells (B := w.heap.size + 2) hg3 (by intro k hk; simp [Act.eval, Value.ownBlock] at hk; omega) (by first | omega | (simp; omega)); have hy3 := grown_frozen (B := w.heap.size + 2) hg3 (by intro k hk; simp [Act.eval, Value.ownBlock] at hk; omega) (by first | omega | (simp; omega)); (try simp at hx3); (try simp at hy3); rw [Nat.zero_add, List.nil_append] at ho3; obtain ⟨ob3, hlo3⟩ := OP.of_own ho3; obtain ⟨p3, q3, rfl, bx3⟩ := ob3.len; clear bx3; have HA3 := Hid.mk' hat3; have HG3 := Hid.mk' hg3; have HO3 := Hid.mk' ho3; have HL3 := Hid.mk' hlo3; clear hat3 hg3 ho3 hlo3))
  all_goals
    have P1 := HA3.out
    have P2 := HG3.out
    have O1 : Hid (OB w2 (.slice p1 t.base.length q1) t.base) := by first | exact o1.below hb2 | exact (o1.below (below_new _ _)).below hb2
    have O2 := Hid.mk' o2
    have O3 := Hid.mk' ob3
    have I1 := Hid.mk' i1
    have I2 := Hid.mk' i2
    have GG := Hid.mk' G2
    have HB1 := Hid.mk' hb1
    have HB2 := Hid.mk' hb2
    have sz3 := HG3.out.size
    clear P1 P2 o1 o2 ob3 i1 i2 G1 G2 hb1 hb2 B0 h1 h2 h3
    go_wp2
    refine bodyPost_ret (v := .agg #[.slice p1 t.base.length q1, .slice p2 t.more.length q2, .slice p3 t.pcs.length q3]) (by simp [results, Try.results51, go_sem, *]) rfl ⟨_, _, _, rfl, ?_, ?_⟩
    · have hat := HA3.out
      have hgr := HG3.out
      have q1_ := HB1.out.size
      have q2_ := HB2.out.size
      try simp at q1_
      try simp at q2_
      refine copy_close O1.out O2.out OW2.out O3.out I1.out I2.out hgr rfl hat ?_ ?_ ?_ ?_ ?_ ?_ ?_ ?_ ?_ ?_ ?_
      · intro k hk; first | rfl | exact Below.heap_alloc _ _ _ hk
      all_goals first | omega | (simp; omega) | (simp; done) | (show w0.heap.size < _ ∨ _; omega) | (show _ ≤ w0.heap.size; omega) | (show _ < w0.heap.size + 1 ∨ _; omega) | (show _ ≤ w0.heap.size + 1; omega)
    · refine Below.trans GG.out ?_
      have hk := kept3 w3 (w.heap.size + 1) 0 1 2 (.slice p1 t.base.length q1) (.slice p2 t.more.length q2) (.slice p3 t.pcs.length q3)
      have zg := GG.out.size
      refine Below.trans ?_ (hk.below (B := w.heap.size) (by omega) (by first | omega | (simp at sz3; omega)))
      first
        | exact (Below.refl _ _).grown HG3.out zg (fun k hk => by simp [Act.eval, Value.ownBlock] at hk; omega)
        | exact ((Below.refl _ _).alloc zg _).grown HG3.out (by simp; omega) (fun k hk => by simp [Act.eval, Value.ownBlock] at hk; omega)

theorem specCopy_any (v : Value) (t : TB) (w : World) (ht : TAt w v t) (hl : (t.base.length : Int) + t.more.length + t.pcs.length ≤ 1048576) :
    Calls Try.prog 51 #[v] w fun e w' => ∃ s1 s2 s3, e = .returned (.agg #[s1, s2, s3]) ∧ OT w.heap.size w'.heap.size w' s1 s2 s3 t ∧ Below w.heap.size w w' := by
  refine (specCopy_own v t w ht hl).mono ?_
  rintro e w' ⟨s1, s2, s3, rfl, h, hb⟩
  exact ⟨s1, s2, s3, rfl, h.1, hb⟩

end Go.Proofs.Ytahkneghmgmnbaa
