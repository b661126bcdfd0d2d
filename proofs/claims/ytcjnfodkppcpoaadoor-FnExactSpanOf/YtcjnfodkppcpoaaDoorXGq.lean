/- Places of a tree: both sides' EndOf. -/
import Derived.Test.YtcjnfodkppcpoaaDoorXGn
namespace Go.Proofs.YtcjnfodkppcpoaaDoor
open Go.RowKit
set_option linter.unusedVariables false
set_option linter.unusedSimpArgs false

/-- The m-th is one of the way to the e-th, at its depth. -/
def onWay (l : List ND) (m e : Nat) : Prop := wv (wayU (upF l) e) (depU (upF l) m + 1) = m ∧ depU (upF l) m + 1 < (wayU (upF l) e).length

theorem onWay_start {l : List ND} {n m : Nat} (h : Ways l n) (hm : m < n) : onWay l m (m + 1) := by
  obtain ⟨L, _, en⟩ := way_succ (upF l) m (h m hm)
  exact ⟨en, by omega⟩

theorem inW_dep {l : List ND} {m e : Nat} (h : Ways l l.length) (hme : m < e) (he : e < l.length) (ho : onWay l m e) : inW (wayU (upF l) (e + 1)) m = decide (depU (upF l) m < depU (upF l) e) := by
  obtain ⟨i1, i2⟩ := in_iff (upF l) l.length h hme he ho
  have G := (h.mono (show e + 1 ≤ l.length by omega)).good
  unfold inW
  by_cases c : depU (upF l) m < depU (upF l) e
  · obtain ⟨h1, h2⟩ := i1 c
    rw [← h1, G.ix h2, decide_eq_true h2, decide_eq_true c]
  · rw [ixF_none _ _ (i2 c), decide_eq_false c, decide_eq_false (Nat.lt_irrefl _)]

set_option maxHeartbeats 3200000 in
theorem end_any (w0 : World) (base g : Nat) (l : List ND) (pa : Nat → Option Addr) (ca : Nat → Nat) (vn vw : Value) (m : Nat) (w : World) (h : TT w0 base g l pa ca l.length vn vw w) (hm : m < l.length) (hl : (l.length : Int) ≤ 1048576) :
    Calls Tryd.prog 38 #[.pointer (some ⟨g, 0, none⟩), .int .i64 (m : Int)] w fun e w' => e = .returned (.int .i64 (endN l m : Int)) ∧ Below w.heap.size w w' := by
  obtain ⟨nb, cap, rfl, _, _, hnode⟩ := h.node (by omega)
  obtain ⟨c0, c1, c2⟩ := cells2 h.box
  have HN := Hid.mk' hnode
  have HC := Hid.mk' c0
  clear h hnode c1
  go_enter Tryd.func38, Tryd.ntmps38
  go_wp2_with fail
  go_loopw [5] (fun i wr => ∃ e : Nat, m < e ∧ e ≤ l.length ∧ i = .int .i64 e ∧ endN l m = endU (depU (upF l)) m (l.length - e) e ∧ Below w.heap.size w wr) (fun i _ => l.length - (intOf i).toNat)
  case atStart => exact ⟨m + 1, by omega, by omega, rfl, rfl, Below.refl _ _⟩
  case round =>
    obtain ⟨e, he1, he2, rfl, hen, hbl⟩ := hrel
    have HD := Hid.mk' hen
    have HB := Hid.mk' hbl
    have k0 := (hbl.cell c2).trans HC.out
    have HC := Hid.mk' k0
    clear hen c0
    have KH : Hid (∀ w', w'.cell? ⟨g, 0, none⟩ = some (.slice (some ⟨nb, 0, none⟩) l.length cap) → Calls Tryd.prog 37 #[.pointer (some ⟨g, 0, none⟩), .int .i64 (e : Int)] w' fun e' w'' => e' = .returned (.bool (decide ((e : Int) ≥ 0) && decide ((e : Int) < (l.length : Int)))) ∧ w'' = w') := fun w' hc => hasPlace_any g (some ⟨nb, 0, none⟩) l.length cap e w' hc
    by_cases hlt : e < l.length
    · have ci : (e : Int) < (l.length : Int) := by omega
      have cm : (m : Int) < (l.length : Int) := by omega
      rw [show (decide ((e : Int) ≥ 0) && decide ((e : Int) < (l.length : Int))) = true by simp; omega] at KH
      have d4 := (hbl.cell (World.block_lt_of_cell? w ⟨nb, e * 5 + 4, none⟩ (HN.out e hlt).2.2.2.2)).trans (HN.out e hlt).2.2.2.2
      have d5 := (hbl.cell (World.block_lt_of_cell? w ⟨nb, m * 5 + 4, none⟩ (HN.out m hm).2.2.2.2)).trans (HN.out m hm).2.2.2.2
      clear hbl
      by_cases hdp : depU (upF l) m < depU (upF l) e
      · have E2 := Hid.mk' (endU_step (d := depU (upF l)) (a := m) hlt hdp)
        have hd2 : (depU (upF l) e : Int) > (depU (upF l) m : Int) := by omega
        go_wp2_with fail
        go_quiet (first | (go_at_call 37; refine Calls.quiet_of_same (KH.out _ ?_); first | exact HC.out | simpa using HC.out))
        go_wp2
        go_roundw
        case rel => exact ⟨e + 1, by omega, by omega, by go_num, by rw [HD.out, E2.out], below_drewN HB.out _⟩
        case measure => simp [intOf]; omega
      · have E2 : Hid (endN l m = e) := Hid.mk' (by rw [HD.out]; exact endU_stop hdp)
        have hd2 : ¬ (depU (upF l) e : Int) > (depU (upF l) m : Int) := by omega
        go_wp2_with fail
        go_quiet (first | (go_at_call 37; refine Calls.quiet_of_same (KH.out _ ?_); first | exact HC.out | simpa using HC.out))
        go_wp2
        go_ret
        exact ⟨by rw [E2.out]; rfl, below_drewN HB.out _⟩
    · have ci : ¬ (e : Int) < (l.length : Int) := by omega
      have E2 : Hid (endN l m = e) := Hid.mk' (by rw [HD.out]; exact endU_all (by omega))
      rw [show (decide ((e : Int) ≥ 0) && decide ((e : Int) < (l.length : Int))) = false by simp; omega] at KH
      go_wp2_with fail
      go_quiet (first | (go_at_call 37; refine Calls.quiet_of_same (KH.out _ ?_); first | exact HC.out | simpa using HC.out))
      go_wp2
      go_ret
      exact ⟨by rw [E2.out]; rfl, below_drewN HB.out _⟩

end Go.Proofs.YtcjnfodkppcpoaaDoor
