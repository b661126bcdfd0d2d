/- Walks: CompactTable, both sides. -/
import Derived.Test.YtahkneghmgmnbaaLaw
namespace Go.Proofs.Ytahkneghmgmnbaa
open Go.RowKit
set_option linter.unusedVariables false

set_option maxHeartbeats 400000 in
theorem l1Bad_any (c : Int) (w : World) :
    Calls Try.prog 49 #[.int .i64 c] w fun e w' => e = .returned (.agg #[.int .i64 c, .slice none 0 0, .slice none 0 0, .slice none 0 0]) ∧ Below w.heap.size w w' := by
  go_enter Try.func49, Try.ntmps49
  go_wp2
  exact bodyPost_ret (v := .agg #[.int .i64 c, .slice none 0 0, .slice none 0 0, .slice none 0 0]) (by simp [results, Try.results49, go_sem]) rfl ⟨rfl, below_new w _⟩

/-- What CompactTable answers: a new table of the text. -/
def compT (t : TB) : TB := if fault t = 0 then newT (text t) else ⟨[], [], []⟩

theorem compT_len (t : TB) : ((compT t).base.length : Int) + (compT t).more.length + (compT t).pcs.length ≤ 1048576 ∧ (cnt (compT t) : Int) ≤ 10000000 := by
  unfold compT
  split
  · rename_i h
    have h2 := (text_len h).2
    unfold cnt newT newPcs
    split <;> simp <;> omega
  · simp [cnt]

set_option maxHeartbeats 400000 in
theorem specComp_any (v : Value) (t : TB) (w : World) (ht : TAtC w v t) (hl : (t.base.length : Int) + t.more.length + t.pcs.length ≤ 1048576) :
    Calls Try.prog 22 #[v] w fun e w' => ∃ s1 s2 s3, e = .returned (.agg #[.int .i64 (fault t), s1, s2, s3]) ∧ OT w.heap.size w'.heap.size w' s1 s2 s3 (compT t) ∧ Below w.heap.size w w' := by
  obtain ⟨a1, a2, a3, c1, c2, c3, rfl, h1, h2, h3, m1, m2⟩ := ht
  have B0 := ((Below.refl w.heap.size w).alloc (Nat.le_refl _) (.cells #[.slice a1 t.base.length c1, .slice a2 t.more.length c2, .slice a3 t.pcs.length c3] 26)).alloc (by simp) (.cells #[.int .i64 0, .slice none 0 0, .slice none 0 0, .slice none 0 0] 30)
  have R0 := (row3 w 26 (.slice a1 t.base.length c1) (.slice a2 t.more.length c2) (.slice a3 t.pcs.length c3)).alloc (.cells #[.int .i64 0, .slice none 0 0, .slice none 0 0, .slice none 0 0] 30)
  have K := l1Fault_any w.heap.size a1 a2 a3 c1 c2 c3 t _ (R0.cell (by omega)) (R0.cell (by omega)) (R0.cell (by omega)) R0.lt (h3.below B0) hl
  have H1 := Hid.mk' (h1.below B0)
  have H2 := Hid.mk' (h2.below B0)
  have H3 := Hid.mk' (h3.below B0)
  by_cases hz : fault t = 0
  · have V : Hid (compT t = newT (text t)) := by unfold compT; rw [hz]; rfl
    have L : Hid (((text t).length : Int) ≤ 1048576) := by have := (text_len hz).2; show (_ : Int) ≤ _; omega
    rw [hz] at K
    have Z := Hid.mk' hz
    have KK := Hid.mk' K
    have BB := Hid.mk' B0
    have RR := Hid.mk' R0
    clear K hz h1 h2 h3 B0 R0
    go_enter Try.func22, Try.ntmps22
    go_wp2_with fail
    refine KK.out.mono ?_
    rintro e w1 ⟨rfl, hb1⟩
    have R1 := RR.out.of_block (hb1.block _ RR.out.lt)
    have K2 := l1Text_any w.heap.size a1 a2 a3 c1 c2 c3 t w1 (R1.cell (by omega)) (R1.cell (by omega)) (R1.cell (by omega)) R1.lt (H1.out.below hb1) (H2.out.below hb1) (H3.out.below hb1) m1 m2 Z.out
    have B1 := Hid.mk' (BB.out.trans (hb1.mono BB.out.size))
    obtain ⟨hc1, hf1⟩ := bcell hb1
    simp at hc1 hf1
    have KK2 := Hid.mk' K2
    have y := hb1.size
    simp at y
    have y' : w.heap.size + 1 < w1.heap.size := by omega
    clear KK BB RR R1 K2 hb1 H1 H2 H3
    go_wp2_with fail
    refine KK2.out.mono ?_
    rintro e w2 ⟨v2, rfl, o2, i2, hb2⟩
    obtain ⟨va, vc, rfl, ba⟩ := o2.len
    have B2 := Hid.mk' (B1.out.trans (hb2.mono B1.out.size))
    obtain ⟨hc2, hf2⟩ := bcell hb2
    have y2 := hb2.size
    have y2' : w.heap.size + 1 < w2.heap.size := by omega
    have K3 := Hid.mk' (l1New_any va vc (text t) w2 ba L.out)
    clear KK2 hb2 o2 i2 B1 ba
    go_wp2_with fail
    refine K3.out.mono ?_
    rintro e w3 ⟨s1, s2, s3, rfl, ot3, hb3⟩
    have O3 := Hid.mk' ot3
    obtain ⟨p1, q1, p2, q2, p3, q3, rfl, rfl, rfl⟩ := ot3.forms
    have B3 := Hid.mk' (B2.out.trans (hb3.mono B2.out.size))
    obtain ⟨hc3, hf3⟩ := bcell hb3
    have y3 := hb3.size
    clear K3 hb3 ot3 B2
    go_wp2
    refine bodyPost_ret (v := .agg #[.int .i64 0, .slice p1 (newT (text t)).base.length q1, .slice p2 (newT (text t)).more.length q2, .slice p3 (newT (text t)).pcs.length q3]) (by simp [results, Try.results22, go_sem, *]) rfl ?_
    have hk := kept4 w3 (w.heap.size + 1) 0 1 2 3 (.int .i64 0) (.slice p1 (newT (text t)).base.length q1) (.slice p2 (newT (text t)).more.length q2) (.slice p3 (newT (text t)).pcs.length q3)
    refine ⟨_, _, _, by rw [Z.out], ?_, B3.out.trans (hk.below (by omega) (by omega))⟩
    rw [V.out]
    exact (O3.out.kept hk (.inr (by omega))).mono (by omega) (by simp)
  · have V : Hid (compT t = ⟨[], [], []⟩) := by unfold compT; rw [if_neg hz]; exact rfl
    have hb : (fault t != 0) = true := by rw [bne_iff_ne]; exact hz
    have KK := Hid.mk' K
    have BB := Hid.mk' B0
    clear K hz h1 h2 h3 B0 R0 H1 H2 H3
    go_enter Try.func22, Try.ntmps22
    go_wp2_with fail
    refine KK.out.mono ?_
    rintro e w1 ⟨rfl, hb1⟩
    have B1 := Hid.mk' (BB.out.trans (hb1.mono BB.out.size))
    obtain ⟨hc1, hf1⟩ := bcell hb1
    simp at hc1 hf1
    have y := hb1.size
    simp at y
    have y' : w.heap.size + 1 < w1.heap.size := by omega
    clear KK BB hb1
    go_wp2_with fail
    refine (l1Bad_any (fault t) w1).mono ?_
    rintro e w2 ⟨rfl, hb2⟩
    have B2 := Hid.mk' (B1.out.trans (hb2.mono B1.out.size))
    obtain ⟨hc2, hf2⟩ := bcell hb2
    have y2 := hb2.size
    clear hb2 B1
    go_wp2
    refine bodyPost_ret (v := .agg #[.int .i64 (fault t), .slice none 0 0, .slice none 0 0, .slice none 0 0]) (by simp [results, Try.results22, go_sem, *]) rfl ?_
    have hk := kept4 w2 (w.heap.size + 1) 0 1 2 3 (.int .i64 (fault t)) (.slice none 0 0) (.slice none 0 0) (.slice none 0 0)
    refine ⟨_, _, _, rfl, ?_, B2.out.trans (hk.below (by omega) (by omega))⟩
    rw [V.out]
    exact OT.empty _ _ _

set_option maxHeartbeats 400000 in
theorem implComp_any (v : Value) (t : TB) (w : World) (ht : TAtC w v t) (hwf : WFT t) (hl : (t.base.length : Int) + t.more.length + t.pcs.length ≤ 1048576) :
    Calls Try.prog 21 #[v] w fun e w' => ∃ s1 s2 s3, e = .returned (.agg #[.int .i64 (fault t), s1, s2, s3]) ∧ OT w.heap.size w'.heap.size w' s1 s2 s3 (compT t) ∧ Below w.heap.size w w' := by
  obtain ⟨a1, a2, a3, c1, c2, c3, rfl, h1, h2, h3, m1, m2⟩ := id ht
  have B0 := ((Below.refl w.heap.size w).alloc (Nat.le_refl _) (.cells #[.slice a1 t.base.length c1, .slice a2 t.more.length c2, .slice a3 t.pcs.length c3] 26)).alloc (by simp) (.cells #[.int .i64 0, .slice none 0 0, .slice none 0 0, .slice none 0 0] 30)
  have K := Hid.mk' (implText_any _ t _ (ht.below B0) hwf hl)
  have BB := Hid.mk' B0
  clear h1 h2 h3 ht B0
  by_cases hz : fault t = 0
  · have V : Hid (textVal t = text t) := by unfold textVal; rw [hz]; rfl
    have V2 : Hid (compT t = newTR (text t)) := by
      have := (text_len hz).2
      show _ = _
      unfold compT newTR; rw [if_pos hz, if_neg (by omega)]
    have V3 : Hid (newCode (text t) = 0) := by
      have := (text_len hz).2
      show _ = _
      unfold newCode; rw [if_neg (by omega)]
    have L : Hid (((text t).length : Int) ≤ 1048576) := by have := (text_len hz).2; show (_ : Int) ≤ _; omega
    have Z := Hid.mk' hz
    rw [hz] at K
    clear hz
    go_enter Try.func21, Try.ntmps21
    go_wp2_with fail
    refine K.out.mono ?_
    rintro e w1 ⟨s, rfl, o1, i1, hb1⟩
    rw [V.out] at o1
    obtain ⟨va, vc, rfl, ba⟩ := o1.len
    have B1 := Hid.mk' (BB.out.trans (hb1.mono BB.out.size))
    obtain ⟨hc1, hf1⟩ := bcell hb1
    simp at hc1 hf1
    have y := hb1.size
    simp at y
    have N1 := below_new w1 (.cells #[.int .i64 0, .slice va (text t).length vc] 33)
    have K3 := Hid.mk' (implNew_any va vc (text t) _ (ba.below N1) L.out)
    have B1' := Hid.mk' (B1.out.trans (N1.mono B1.out.size))
    have y' : w.heap.size + 1 < w1.heap.size + 1 := by omega
    have y'' : w.heap.size + 1 < w1.heap.size := by omega
    clear K BB hb1 o1 i1 ba N1 B1
    go_wp2_with fail
    refine K3.out.mono ?_
    rintro e w3 ⟨s1, s2, s3, rfl, ot3, hb3⟩
    rw [V3.out]
    have O3 := Hid.mk' ot3
    obtain ⟨p1, q1, p2, q2, p3, q3, rfl, rfl, rfl⟩ := ot3.forms
    have B3 := Hid.mk' (B1'.out.trans (hb3.mono B1'.out.size))
    obtain ⟨hc3, hf3⟩ := bcell hb3
    simp at hc3 hf3
    have y3 := hb3.size
    simp at y3
    clear K3 hb3 ot3 B1'
    go_wp2
    refine bodyPost_ret (v := .agg #[.int .i64 0, .slice p1 (newTR (text t)).base.length q1, .slice p2 (newTR (text t)).more.length q2, .slice p3 (newTR (text t)).pcs.length q3]) (by simp [results, Try.results21, go_sem, *]) rfl ?_
    have hk := kept4 w3 (w.heap.size + 1) 0 1 2 3 (.int .i64 0) (.slice p1 (newTR (text t)).base.length q1) (.slice p2 (newTR (text t)).more.length q2) (.slice p3 (newTR (text t)).pcs.length q3)
    refine ⟨_, _, _, by rw [Z.out], ?_, B3.out.trans (hk.below (by omega) (by omega))⟩
    rw [V2.out]
    exact (O3.out.kept hk (.inr (by simp; omega))).mono (by simp; omega) (by simp)
  · have V : Hid (textVal t = []) := by unfold textVal; rw [if_neg hz]; exact rfl
    have V2 : Hid (compT t = ⟨[], [], []⟩) := by unfold compT; rw [if_neg hz]; exact rfl
    have hb : (fault t != 0) = true := by rw [bne_iff_ne]; exact hz
    clear hz
    go_enter Try.func21, Try.ntmps21
    go_wp2_with fail
    refine K.out.mono ?_
    rintro e w1 ⟨s, rfl, o1, i1, hb1⟩
    rw [V.out] at o1
    obtain ⟨va, vc, rfl, ba⟩ := o1.len
    have B1 := Hid.mk' (BB.out.trans (hb1.mono BB.out.size))
    obtain ⟨hc1, hf1⟩ := bcell hb1
    simp at hc1 hf1
    have y := hb1.size
    simp at y
    have y' : w.heap.size + 1 < w1.heap.size + 1 := by omega
    have y'' : w.heap.size + 1 < w1.heap.size := by omega
    clear K BB hb1 o1 i1 ba
    go_wp2
    refine bodyPost_ret (v := .agg #[.int .i64 (fault t), .slice none 0 0, .slice none 0 0, .slice none 0 0]) (by simp [results, Try.results21, go_sem, *]) rfl ?_
    have hk := (kept4 w1 (w.heap.size + 1) 0 1 2 3 (.int .i64 (fault t)) (.slice none 0 0) (.slice none 0 0) (.slice none 0 0)).alloc (.cells #[.int .i64 (fault t), .slice va 0 vc] 33)
    refine ⟨_, _, _, rfl, ?_, B1.out.trans (hk.below (by omega) (by omega))⟩
    rw [V2.out]
    exact OT.empty _ _ _

end Go.Proofs.Ytahkneghmgmnbaa
