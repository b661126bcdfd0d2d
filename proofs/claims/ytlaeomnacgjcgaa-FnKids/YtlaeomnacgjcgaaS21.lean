/- Both sides' TreeFault, and the law on it. -/
import Derived.Test.YtlaeomnacgjcgaaS19
import Derived.Test.YtlaeomnacgjcgaaS20
import Derived.Test.YtlaeomnacgjcgaaS18
import Derived.Test.YtlaeomnacgjcgaaS14
set_option linter.unusedVariables false
set_option linter.unusedSimpArgs false
namespace Go.Proofs.Ytlaeomnacgjcgaa
open Go.RowKit

set_option maxHeartbeats 1600000 in
theorem l6Fault_any (a : Option Addr) (c : Nat) (l : List ND) (w : World) (ha : NsAt w a l) (hl : (l.length : Int) + nssz l ≤ 1048576) :
    Calls Try.prog 35 #[.slice a l.length c] w fun e w' => e = .returned (.int .i64 (treeF l)) ∧ Below w.heap.size w w' := by
  by_cases h60 : (l.length : Int) > 60
  · have E : Hid (treeF l = 2) := Hid.mk' (by unfold treeF; rw [if_pos (by omega)])
    go_enter Try.func35, Try.ntmps35
    go_wp2
    go_ret
    exact ⟨by rw [E.out]; rfl, Below.refl _ _⟩
  have HA := Hid.mk' ha
  clear ha
  go_enter Try.func35, Try.ntmps35
  go_wp2
  go_loopw [3] (fun i wr => ∃ k : Nat, k ≤ l.length ∧ i = .int .i64 k ∧ (∀ j, j < k → oneF l j = 0) ∧ Below w.heap.size w wr) (fun i _ => l.length - (intOf i).toNat)
  case atStart => exact ⟨0, Nat.zero_le _, rfl, fun j h => absurd h (Nat.not_lt_zero _), Below.refl _ _⟩
  case round =>
    obtain ⟨k, hk, rfl, hz, hbl⟩ := hrel
    have HZ := Hid.mk' hz
    have HB := Hid.mk' hbl
    by_cases hlt : k < l.length
    · have ci : (k : Int) < (l.length : Int) := by omega
      have KO := l6One_any a c l k wr (HA.out.below hbl) hlt (ways_of hz) hl
      clear hz hbl
      by_cases h0 : oneF l k = 0
      · have H0 := Hid.mk' h0
        rw [h0] at KO
        have KO := Hid.mk' KO
        clear h0
        go_wp2_with fail
        refine KO.out.mono ?_
        rintro e w1 ⟨rfl, hb⟩
        have HB := Hid.mk' (HB.out.trans (hb.mono HB.out.size))
        clear hb KO
        go_wp2
        go_roundw
        case rel => exact ⟨k + 1, by omega, by go_num, fun j hj => by
          by_cases h : j = k
          · subst h; exact H0.out
          · exact HZ.out j (by omega), HB.out⟩
        case measure => simp [intOf]; omega
      · have E : Hid (treeF l = oneF l k) := Hid.mk' (treeF_hit (by omega) hlt HZ.out rfl h0)
        have KO := Hid.mk' KO
        generalize hf : oneF l k = f at *
        go_wp2_with fail
        refine KO.out.mono ?_
        rintro e w1 ⟨rfl, hb⟩
        have HB := Hid.mk' (HB.out.trans (hb.mono HB.out.size))
        clear hb KO
        go_wp2
        go_ret
        exact ⟨by rw [E.out]; rfl, HB.out⟩
    · have ci : ¬ (k : Int) < (l.length : Int) := by omega
      have e : k = l.length := by omega
      subst e
      have E : Hid (treeF l = 0) := Hid.mk' (treeF_none (by omega) HZ.out)
      clear hz hbl
      go_wp2
      go_ret
      exact ⟨by rw [E.out]; rfl, HB.out⟩

theorem specTree_any (a : Option Addr) (c : Nat) (l : List ND) (w : World) (ha : NsAt w a l) (hl : (l.length : Int) + nssz l ≤ 1048576) :
    Calls Try.prog 23 #[.slice a l.length c] w fun e w' => e = .returned (.int .i64 (treeF l)) ∧ Below w.heap.size w w' := by
  have K := Hid.mk' (l6Fault_any a c l w ha hl)
  clear ha
  go_enter Try.func23, Try.ntmps23
  go_wp2_with fail
  refine K.out.mono ?_
  rintro e w1 ⟨rfl, hb⟩
  have HB := Hid.mk' hb
  clear hb K
  go_wp2
  go_ret
  exact ⟨rfl, HB.out⟩

set_option maxHeartbeats 1600000 in
theorem implTree_any (a : Option Addr) (c : Nat) (l : List ND) (w : World) (ha : NsAt w a l) (hl : (l.length : Int) + nssz l ≤ 1048576) :
    Calls Try.prog 22 #[.slice a l.length c] w fun e w' => e = .returned (.int .i64 (treeF l)) ∧ Below w.heap.size w w' := by
  have K := Hid.mk' (treeOf_any a c l w ha hl)
  clear ha
  go_enter Try.func22, Try.ntmps22
  go_wp2_with fail
  refine K.out.mono ?_
  rintro e w1 (⟨h0, rfl, hb⟩ | ⟨h0, pa, ca, g, vn, vw, rfl, hT⟩)
  · have HB := Hid.mk' hb
    clear hb K
    go_wp2
    go_ret
    exact ⟨rfl, HB.out.alloc HB.out.size _⟩
  · have HB := Hid.mk' hT.bl
    have E := Hid.mk' h0
    obtain ⟨an, cn, ev, _⟩ := own_len hT.on
    subst ev
    obtain ⟨aw, cw, ev, _⟩ := own_len hT.ow
    subst ev
    clear hT K h0
    go_wp2
    go_ret
    exact ⟨by rw [E.out]; rfl, HB.out.alloc HB.out.size _⟩

end Go.Proofs.Ytlaeomnacgjcgaa

namespace Go.Proofs.Ytlaeomnacgjcgaa
open Go.RowKit

def depR (l : List ND) (x : Int) : Int := if askF l x = 0 then (depU (upF l) x.toNat : Int) else 0

theorem TT.rebox {w0 w w' : World} {base g h : Nat} {l : List ND} {pa : Nat → Option Addr} {ca : Nat → Nat} {k : Nat} {vn vw : Value} (t : TT w0 base g l pa ca k vn vw w) (hb : Below w.heap.size w w') (hh : w.heap.size ≤ h) (hr : w'.rowIs h 47 2 (p2 vn vw)) : TT w0 base h l pa ca k vn vw w' := by
  have h1 := t.below hb
  exact ⟨hr, h1.on, h1.ow, h1.ap, fun e => by have := (t.on.lt _ e).2; omega, fun e => by have := (t.ow.lt _ e).2; omega, h1.bl, h1.sz, by have := t.sz; omega⟩

theorem ask_cases (l : List ND) (x : Int) : (¬ treeF l = 0 ∧ askF l x = treeF l) ∨ (treeF l = 0 ∧ ¬ (0 ≤ x ∧ x < (l.length : Int)) ∧ askF l x = 3) ∨ (treeF l = 0 ∧ askF l x = 0 ∧ ∃ m : Nat, x = (m : Int) ∧ m < l.length) := by
  unfold askF
  by_cases h : treeF l = 0
  · by_cases h2 : 0 ≤ x ∧ x < (l.length : Int)
    · exact .inr (.inr ⟨h, by rw [if_pos h, if_pos h2], x.toNat, by omega, by omega⟩)
    · exact .inr (.inl ⟨h, h2, by rw [if_pos h, if_neg h2]⟩)
  · exact .inl ⟨h, by rw [if_neg h]⟩

set_option maxHeartbeats 1600000 in
theorem l6Asked_any (a : Option Addr) (c : Nat) (l : List ND) (x : Int) (w : World) (ha : NsAt w a l) (hl : (l.length : Int) + nssz l ≤ 1048576) :
    Calls Try.prog 27 #[.slice a l.length c, .int .i64 x] w fun e w' => e = .returned (.int .i64 (askF l x)) ∧ Below w.heap.size w w' := by
  have KF := Hid.mk' (l6Fault_any a c l w ha hl)
  have KI : Hid (∀ w', Calls Try.prog 37 #[.int .i64 x, .int .i64 0, .int .i64 ((l.length : Int) - 1)] w' fun e w'' => e = .returned (.bool (decide (0 ≤ x) && decide (x ≤ (l.length : Int) - 1))) ∧ w'' = w') := fun w' => l1In_any x 0 ((l.length : Int) - 1) w'
  clear ha
  rcases ask_cases l x with ⟨h0, h1⟩ | ⟨h0, h1, h2⟩ | ⟨h0, h1, m, rfl, hm⟩
  · rw [h1]
    go_enter Try.func27, Try.ntmps27
    go_wp2_with fail
    refine KF.out.mono ?_
    rintro e w1 ⟨rfl, hb⟩
    have HB := Hid.mk' hb
    clear hb KF
    go_wp2
    go_ret
    exact ⟨rfl, HB.out⟩
  · rw [h2]
    rw [h0] at KF
    have e1 : (decide (0 ≤ x) && decide (x ≤ (l.length : Int) - 1)) = false := by simp; omega
    rw [e1] at KI
    clear e1
    go_enter Try.func27, Try.ntmps27
    go_wp2_with fail
    refine KF.out.mono ?_
    rintro e w1 ⟨rfl, hb⟩
    have HB := Hid.mk' hb
    clear hb KF
    go_wp2_with fail
    refine (KI.out _).mono ?_
    rintro e w2 ⟨rfl, hw⟩
    obtain rfl := hw.symm
    go_wp2
    go_ret
    exact ⟨rfl, HB.out⟩
  · rw [h1]
    rw [h0] at KF
    have e1 : (decide (0 ≤ (m : Int)) && decide ((m : Int) ≤ (l.length : Int) - 1)) = true := by simp; omega
    rw [e1] at KI
    clear e1
    go_enter Try.func27, Try.ntmps27
    go_wp2_with fail
    refine KF.out.mono ?_
    rintro e w1 ⟨rfl, hb⟩
    have HB := Hid.mk' hb
    clear hb KF
    go_wp2_with fail
    refine (KI.out _).mono ?_
    rintro e w2 ⟨rfl, hw⟩
    obtain rfl := hw.symm
    go_wp2
    go_ret
    exact ⟨rfl, HB.out⟩

set_option maxHeartbeats 1600000 in
theorem specDepth_any (a : Option Addr) (c : Nat) (l : List ND) (x : Int) (w : World) (ha : NsAt w a l) (hl : (l.length : Int) + nssz l ≤ 1048576) :
    Calls Try.prog 15 #[.slice a l.length c, .int .i64 x] w fun e w' => e = .returned (.agg #[.int .i64 (askF l x), .int .i64 (depR l x)]) ∧ Below w.heap.size w w' := by
  have N0 := below_new w (.cells #[.int .i64 0, .int .i64 0] 28)
  have KF := l6Asked_any a c l x _ (ha.below N0) hl
  have RB := Hid.mk' (rowp2 w 28 (.int .i64 0) (.int .i64 0))
  have HN := Hid.mk' N0
  have HA := Hid.mk' (ha.below N0)
  clear ha N0
  generalize hW : w.alloc (.cells #[.int .i64 0, .int .i64 0] 28) = W at *
  by_cases h0 : askF l x = 0
  · have E : Hid (depR l x = (depU (upF l) x.toNat : Int)) := Hid.mk' (by unfold depR; rw [if_pos h0])
    have HE := Hid.mk' h0
    obtain ⟨h1, m, rfl, hm⟩ : treeF l = 0 ∧ ∃ m : Nat, x = (m : Int) ∧ m < l.length := by
      rcases ask_cases l x with ⟨h1, h2⟩ | ⟨h1, h2, h3⟩ | ⟨h1, h2, h3⟩
      · rw [h2] at h0; exact absurd h0 h1
      · rw [h3] at h0; exact absurd h0 (by decide)
      · exact ⟨h1, h3⟩
    have KD : Hid (∀ w', Below W.heap.size W w' → Calls Try.prog 33 #[.slice a l.length c, .int .i64 (m : Int)] w' fun e w'' => e = .returned (.int .i64 (depU (upF l) m : Int)) ∧ w'' = w') := fun w' hb => l6Depth_any a c l m w' (HA.out.below hb) hm ((treeF_ways h1).mono (by omega)) (treeF_ways h1 m hm) (by omega)
    rw [h0] at KF
    have KF := Hid.mk' KF
    clear h0 h1
    go_enter Try.func15, Try.ntmps15
    go_wp2_with fail
    clear hW
    refine KF.out.mono ?_
    rintro e w1 ⟨rfl, hb⟩
    have R1 := rowB RB.out hb
    have HB := Hid.mk' (HN.out.trans (hb.mono HN.out.size))
    have HC := Hid.mk' hb
    obtain ⟨b0, b1, b2⟩ := cells2 R1
    have f0 := R1.frozen 0
    have f1 := R1.frozen 1
    clear hb KF R1
    go_wp2_with fail
    refine (KD.out _ HC.out).mono ?_
    rintro e w2 ⟨rfl, hw⟩
    obtain rfl := hw.symm
    go_wp2
    refine bodyPost_ret (v := .agg #[.int .i64 0, .int .i64 (depU (upF l) m : Int)]) (by simp [results, Try.results15, go_sem, *]) rfl ?_
    exact ⟨by rw [HE.out, E.out, Int.toNat_natCast], (HB.out.setCell (p := ⟨w.heap.size, 0, none⟩) (Nat.le_refl _) _).setCell (p := ⟨w.heap.size, 1, none⟩) (Nat.le_refl _) _⟩
  · have E : Hid (depR l x = 0) := Hid.mk' (by unfold depR; rw [if_neg h0])
    have KF := Hid.mk' KF
    go_enter Try.func15, Try.ntmps15
    go_wp2_with fail
    clear hW
    refine KF.out.mono ?_
    rintro e w1 ⟨rfl, hb⟩
    have R1 := rowB RB.out hb
    have HB := Hid.mk' (HN.out.trans (hb.mono HN.out.size))
    obtain ⟨b0, b1, b2⟩ := cells2 R1
    have f0 := R1.frozen 0
    have f1 := R1.frozen 1
    clear hb KF R1
    go_wp2
    refine bodyPost_ret (v := .agg #[.int .i64 (askF l x), .int .i64 0]) (by simp [results, Try.results15, go_sem, *]) rfl ?_
    exact ⟨by rw [E.out], (HB.out.setCell (p := ⟨w.heap.size, 0, none⟩) (Nat.le_refl _) _).setCell (p := ⟨w.heap.size, 1, none⟩) (Nat.le_refl _) _⟩

set_option maxHeartbeats 1600000 in
theorem hasPlace_any (g : Nat) (an : Option Addr) (n cn : Nat) (x : Int) (w : World) (h : w.cell? ⟨g, 0, none⟩ = some (.slice an n cn)) :
    Calls Try.prog 25 #[.pointer (some ⟨g, 0, none⟩), .int .i64 x] w fun e w' => e = .returned (.bool (decide (x ≥ 0) && decide (x < (n : Int)))) ∧ w' = w := by
  by_cases h1 : x ≥ 0
  · by_cases h2 : x < (n : Int)
    all_goals
      go_enter Try.func25, Try.ntmps25
      go_wp2_with go_big_skip
      go_ret
      exact ⟨by simp [h1, h2], rfl⟩
  · go_enter Try.func25, Try.ntmps25
    go_wp2_with go_big_skip
    go_ret
    exact ⟨by simp; omega, rfl⟩

set_option maxHeartbeats 3200000 in
theorem implDepth_any (a : Option Addr) (c : Nat) (l : List ND) (x : Int) (w : World) (ha : NsAt w a l) (hl : (l.length : Int) + nssz l ≤ 1048576) :
    Calls Try.prog 9 #[.slice a l.length c, .int .i64 x] w fun e w' => e = .returned (.agg #[.int .i64 (askF l x), .int .i64 (depR l x)]) ∧ Below w.heap.size w w' := by
  have N0 := below_new w (.cells #[.int .i64 0, .int .i64 0] 28)
  have KF := Hid.mk' (treeOf_any a c l _ (ha.below N0) hl)
  have RB := Hid.mk' (rowp2 w 28 (.int .i64 0) (.int .i64 0))
  have HN := Hid.mk' N0
  clear ha N0
  generalize hW : w.alloc (.cells #[.int .i64 0, .int .i64 0] 28) = W at *
  go_enter Try.func9, Try.ntmps9
  go_wp2_with fail
  clear hW
  refine KF.out.mono ?_
  rintro e w1 (⟨h0, rfl, hb⟩ | ⟨h0, pa, ca, g, vn, vw, rfl, hT⟩)
  · have E1 : Hid (askF l x = treeF l) := Hid.mk' (by unfold askF; rw [if_neg h0])
    have E : Hid (depR l x = 0) := Hid.mk' (by unfold depR; rw [if_neg (by rw [E1.out]; exact h0)])
    have R1 := rowB RB.out hb
    have HB := Hid.mk' (HN.out.trans (hb.mono HN.out.size))
    obtain ⟨b0, b1, b2⟩ := cells2 R1
    have f0 := R1.frozen 0
    have f1 := R1.frozen 1
    clear hb KF R1
    go_wp2
    refine bodyPost_ret (v := .agg #[.int .i64 (treeF l), .int .i64 0]) (by simp [results, Try.results9, go_sem, *]) rfl ?_
    have T := (HB.out.setCell (p := ⟨w.heap.size, 0, none⟩) (Nat.le_refl _) (.int .i64 (treeF l))).setCell (p := ⟨w.heap.size, 1, none⟩) (Nat.le_refl _) (.int .i64 0)
    exact ⟨by rw [E1.out, E.out], T.alloc T.size _⟩
  · obtain ⟨an, cn, ev, _⟩ := own_len hT.on
    subst ev
    obtain ⟨aw, cw, ev, _⟩ := own_len hT.ow
    subst ev
    have N2 := below_new w1 (.cells #[.slice an l.length cn, .slice aw (wayU (upF l) l.length).length cw] 47)
    have HT2 := Hid.mk' (hT.rebox N2 (Nat.le_refl _) (rowp2 w1 47 (.slice an l.length cn) (.slice aw (wayU (upF l) l.length).length cw)))
    have R1 := rowB RB.out (hT.bl.trans (N2.mono hT.bl.size))
    have HB := Hid.mk' (HN.out.trans ((hT.bl.trans (N2.mono hT.bl.size)).mono HN.out.size))
    have H0 := Hid.mk' h0
    clear hT N2 KF
    obtain ⟨b0, b1, b2⟩ := cells2 R1
    have f0 := R1.frozen 0
    have f1 := R1.frozen 1
    generalize hW2 : w1.alloc (.cells #[.slice an l.length cn, .slice aw (wayU (upF l) l.length).length cw] 47) = W2 at *
    obtain ⟨t0, t1, t2⟩ := cells2 HT2.out.box
    have KH := Hid.mk' (hasPlace_any w1.heap.size an l.length cn x W2 t0)
    rcases ask_cases l x with ⟨h1, h2⟩ | ⟨h1, h2, h3⟩ | ⟨h1, h2, m, rfl, hm⟩
    · exact absurd h0 h1
    · have E : Hid (depR l x = 0) := Hid.mk' (by unfold depR; rw [if_neg (by rw [h3]; decide)])
      have E1 := Hid.mk' h3
      have e1 : (decide (x ≥ 0) && decide (x < (l.length : Int))) = false := by simp; omega
      rw [e1] at KH
      clear h1 h2 h3 e1 h0
      go_wp2_with fail
      clear hW2
      refine KH.out.mono ?_
      rintro e w2 ⟨rfl, hw⟩
      obtain rfl := hw.symm
      go_wp2
      refine bodyPost_ret (v := .agg #[.int .i64 3, .int .i64 0]) (by simp [results, Try.results9, go_sem, *]) rfl ?_
      exact ⟨by rw [E1.out, E.out], (HB.out.setCell (p := ⟨w.heap.size, 0, none⟩) (Nat.le_refl _) _).setCell (p := ⟨w.heap.size, 1, none⟩) (Nat.le_refl _) _⟩
    · have E : Hid (depR l m = (depU (upF l) m : Int)) := Hid.mk' (by unfold depR; rw [if_pos h2, Int.toNat_natCast])
      have E1 := Hid.mk' h2
      have e1 : (decide ((m : Int) ≥ 0) && decide ((m : Int) < (l.length : Int))) = true := by simp; omega
      rw [e1] at KH
      obtain ⟨nb, cap, ev, _, _, hnode⟩ := HT2.out.node (by omega)
      cases ev
      obtain ⟨_, _, _, _, d4⟩ := hnode m hm
      have mi : (m : Int) < (l.length : Int) := by omega
      clear h1 h2 e1 h0 hnode
      go_wp2_with fail
      clear hW2
      refine KH.out.mono ?_
      rintro e w2 ⟨rfl, hw⟩
      obtain rfl := hw.symm
      go_wp2
      refine bodyPost_ret (v := .agg #[.int .i64 0, .int .i64 (depU (upF l) m : Int)]) (by simp [results, Try.results9, go_sem, *]) rfl ?_
      exact ⟨by rw [E1.out, E.out], (HB.out.setCell (p := ⟨w.heap.size, 0, none⟩) (Nat.le_refl _) _).setCell (p := ⟨w.heap.size, 1, none⟩) (Nat.le_refl _) _⟩

end Go.Proofs.Ytlaeomnacgjcgaa

namespace Go.Proofs.Ytlaeomnacgjcgaa
open Go.RowKit

def OI (w : World) (v : Value) (l : List Int) : Prop := (v = .slice none 0 0 ∧ l = []) ∨
  ∃ g cap cn f, v = .slice (some ⟨g, 0, none⟩) l.length cap ∧ w.rowIs g 2 cn f ∧ l.length ≤ cn ∧ ∀ i, i < l.length → f i = .int .i64 (wv l i)

theorem OI.keep {w w' : World} {v : Value} {l : List Int} (h : OI w v l) (hk : ∀ k, v.ownBlock = some k → k < w.heap.size → w'.heap[k]? = w.heap[k]?) : OI w' v l := by
  rcases h with h | ⟨g, cap, cn, f, rfl, hr, hl, hf⟩
  · exact .inl h
  · exact .inr ⟨g, cap, cn, f, rfl, hr.of_block (hk g rfl hr.lt), hl, hf⟩

theorem OI.len {w : World} {v : Value} {l : List Int} (h : OI w v l) : ∃ a c, v = .slice a l.length c ∧ IAt w a l := by
  rcases h with ⟨rfl, rfl⟩ | ⟨g, cap, cn, f, rfl, hr, hl, hf⟩
  · exact ⟨none, 0, rfl, .inl rfl⟩
  · exact ⟨_, _, rfl, .inr ⟨g, 0, rfl, hr.lt, fun k hk => by rw [Nat.zero_add, hr.cell (by omega), hf k hk]⟩⟩

theorem OI.of_own {w : World} {base : Nat} {v : Value} {l : List Int} (h : w.ownsRow base 2 1 v l.length (ics l)) : OI w v l := by
  obtain ⟨_, h | ⟨g, cap, cur, rfl, hb, hg, hn, hm, hs, ht⟩⟩ := h
  · obtain ⟨rfl, h0⟩ := h
    exact .inl ⟨rfl, List.eq_nil_of_length_eq_zero h0⟩
  · refine .inr ⟨g, cap, cap, fun i => cur.toList.getD i undef, rfl, ⟨cur, hg, by omega, fun i hi => ?_⟩, hn, fun i hi => ?_⟩
    · have : i < cur.size := by omega
      simp [this]
    · have e := ics_get l i hi
      rw [← ht, List.getElem?_take, if_pos (by omega)] at e
      simp only [List.getD_eq_getElem?_getD, e, Option.getD_some]

def kidsU (u : Nat → Int) (x : Int) : Nat → List Int
  | 0 => []
  | k + 1 => kidsU u x k ++ (if u k = x then [(k : Int)] else [])

theorem kidsU_len (u : Nat → Int) (x : Int) : ∀ k, (kidsU u x k).length ≤ k
  | 0 => Nat.le_refl _
  | k + 1 => by
    have := kidsU_len u x k
    unfold kidsU
    split <;> simp <;> omega

def kidC (l : List ND) (x : Int) : Int := if treeF l = 0 then (if -1 ≤ x ∧ x < (l.length : Int) then 0 else 3) else treeF l
def kidL (l : List ND) (x : Int) : List Int := if kidC l x = 0 then kidsU (upF l) x l.length else []

theorem kidL_len (l : List ND) (x : Int) (h : l.length ≤ 60 ∨ ¬ kidC l x = 0) : (kidL l x).length ≤ 60 := by
  unfold kidL
  split
  · have := kidsU_len (upF l) x l.length
    rcases h with h | h
    · omega
    · contradiction
  · simp

theorem kidC_len {l : List ND} {x : Int} (h : kidC l x = 0) : l.length ≤ 60 := by
  unfold kidC at h
  by_cases e : treeF l = 0
  · exact treeF_len e
  · rw [if_neg e] at h; exact absurd h e

theorem kidL_small (l : List ND) (x : Int) : (kidL l x).length ≤ 60 := by
  by_cases h : kidC l x = 0
  · exact kidL_len l x (.inl (kidC_len h))
  · exact kidL_len l x (.inr h)

set_option maxRecDepth 100000 in
set_option maxHeartbeats 3200000 in
theorem l6Kids_any (a : Option Addr) (c : Nat) (l : List ND) (x : Int) (w : World) (ha : NsAt w a l) (hl : l.length ≤ 60) :
    Calls Try.prog 38 #[.slice a l.length c, .int .i64 x] w fun e w' => ∃ v, e = .returned v ∧ w'.ownsRow w.heap.size 2 1 v (kidsU (upF l) x l.length).length (ics (kidsU (upF l) x l.length)) ∧ Below w.heap.size w w' := by
  have HA := Hid.mk' ha
  clear ha
  have O0 := Hid.mk' (World.ownsRow_lit (base := w.heap.size) (e := 2) (size := 1) w #[] 0 (Nat.le_refl _) (by unfold maxLen; omega) rfl)
  have B0 := Hid.mk' (below_new w (.cells #[] 2))
  go_enter Try.func38, Try.ntmps38
  go_wp2
  go_loopw [5, 6] (fun v i wr => ∃ k : Nat, k ≤ l.length ∧ i = .int .i64 k ∧ wr.ownsRow w.heap.size 2 1 v (kidsU (upF l) x k).length (ics (kidsU (upF l) x k)) ∧ Below w.heap.size w wr) (fun _ i _ => l.length - (intOf i).toNat)
  case atStart => exact ⟨0, Nat.zero_le _, rfl, O0.out, B0.out⟩
  case round =>
    obtain ⟨k, hk, rfl, hown, hbl⟩ := hrel
    have HO := Hid.mk' hown
    have HB := Hid.mk' hbl
    by_cases hlt : k < l.length
    · have ci : (k : Int) < (l.length : Int) := by omega
      rcases HA.out with ha | ⟨b, o, rfl, hbs, hc⟩
      · exact absurd hlt (by rw [ha]; exact Nat.not_lt_zero _)
      have h1 := (hbl.cell hbs).trans (hc k hlt).1
      have kl := kidsU_len (upF l) x k
      clear hc hown hbl
      by_cases e : (ndK l k).up = x
      · have E : Hid (kidsU (upF l) x (k + 1) = kidsU (upF l) x k ++ [(k : Int)]) := Hid.mk' (by show _ ++ (if (ndK l k).up = x then _ else _) = _; rw [if_pos e])
        rw [e] at h1
        have VB := below_new wr (.cells #[.int .i64 (k : Int)] 2)
        have OV := Hid.mk' (own_keep HO.out VB)
        have NC := Hid.mk' (new_cells wr 2 [.int .i64 (k : Int)] wr.heap.size rfl)
        have SZ : Hid (w.heap.size ≤ (wr.alloc (.cells #[.int .i64 (k : Int)] 2)).heap.size) := Hid.mk' (by have := HB.out.size; simp; omega)
        have HB := Hid.mk' (HB.out.trans (VB.mono HB.out.size))
        clear VB e
        go_wp2_with (at_builtin; refine wpList_append_at _ rfl (.tmp 21) (.tmp 23) 30 rfl w.heap.size 2 (.int .i64 0) 1 8 Try.underlying30 Try.info2 rfl (by decide) _ _ _ rfl OV.out _ 1 _ (ics [(k : Int)]) rfl (by simp [ics]) (.inr ⟨_, rfl, NC.out⟩) (ics_one _) (by unfold maxLen; omega) (by omega) SZ.out ?_; intro v' w1 ho hgr hat)
        have O2 : Hid (w1.ownsRow w.heap.size 2 1 v' (kidsU (upF l) x (k + 1)).length (ics (kidsU (upF l) x (k + 1)))) := Hid.mk' (by
          rw [E.out, List.length_append]
          have : ics (kidsU (upF l) x k ++ [(k : Int)]) = ics (kidsU (upF l) x k) ++ ics [(k : Int)] := by simp [ics]
          rw [this]; exact ho)
        have B2 := Hid.mk' (HB.out.grown hgr SZ.out (own_lo OV.out))
        clear ho hgr hat
        go_roundw
        case rel => exact ⟨k + 1, by omega, by go_num, O2.out, B2.out⟩
        case measure => simp [intOf]; omega
      · have E : Hid (kidsU (upF l) x (k + 1) = kidsU (upF l) x k) := Hid.mk' (by show _ ++ (if (ndK l k).up = x then _ else _) = _; rw [if_neg e, List.append_nil])
        go_wp2
        go_roundw
        case rel => exact ⟨k + 1, by omega, by go_num, by rw [E.out]; exact HO.out, HB.out⟩
        case measure => simp [intOf]; omega
    · have ci : ¬ (k : Int) < (l.length : Int) := by omega
      have e : k = l.length := by omega
      subst e
      clear hown hbl
      go_wp2
      go_ret
      exact ⟨_, rfl, HO.out, HB.out⟩

end Go.Proofs.Ytlaeomnacgjcgaa

namespace Go.Proofs.Ytlaeomnacgjcgaa
open Go.RowKit

structure BS where
  nd : List ND
  op : List Int
  lg : Bool

end Go.Proofs.Ytlaeomnacgjcgaa

namespace Go.Proofs.Ytlaeomnacgjcgaa
open Go.RowKit

def aheadI (op : List Int) (k : Nat) : Int := if k = 0 then -1 else wv op (k - 1)

theorem aheadI_succ (op : List Int) (k : Nat) : aheadI op (k + 1) = wv op k := by unfold aheadI; rw [if_neg (by omega)]; rfl

def openF (l : List ND) (op : List Int) (k : Nat) : Int :=
  if 0 ≤ wv op k ∧ wv op k < (l.length : Int) then (if (ndK l (wv op k).toNat).up = aheadI op k ∧ holdB (ndK l (wv op k).toNat) = true then 0 else 1) else 3

def opensF (l : List ND) (op : List Int) : Int := firstF (openF l op) op.length 0

def restF (l : List ND) (op : List Int) : Int :=
  if opensF l op = 0 then (if 7 < op.length then 2 else if 0 < op.length ∧ inW (wayU (upF l) l.length) (aheadI op op.length) = false then 1 else 0) else opensF l op

def bldF (s : BS) : Int :=
  if treeF s.nd = 0 then (if s.lg = true ∧ (0 < s.nd.length ∨ 0 < s.op.length) then 1 else restF s.nd s.op) else treeF s.nd

theorem openF_out {l : List ND} {op : List Int} {k : Nat} (h : ¬ (0 ≤ wv op k ∧ wv op k < (l.length : Int))) : openF l op k = 3 := by unfold openF; rw [if_neg h]

set_option maxHeartbeats 800000 in
theorem l7Top_any (p : Option Addr) (d : Nat) (op : List Int) (w : World) (hp : IAt w p op) (ho : (op.length : Int) ≤ 1048576) :
    Calls Try.prog 72 #[.slice p op.length d] w fun e w' => e = .returned (.int .i64 (aheadI op op.length)) ∧ w' = w := by
  by_cases h0 : op.length = 0
  · have E : Hid (aheadI op op.length = -1) := Hid.mk' (by unfold aheadI; rw [if_pos h0])
    have h0' : (op.length : Int) = 0 := by omega
    go_enter Try.func72, Try.ntmps72
    go_wp2
    go_ret
    exact ⟨by rw [E.out]; rfl, rfl⟩
  · rcases hp with ha | ⟨b1, o1, rfl, s1, hc1⟩
    · exact absurd (by rw [ha]; rfl) h0
    obtain ⟨m, hm⟩ : ∃ m, op.length = m + 1 := ⟨op.length - 1, by omega⟩
    have E : Hid (aheadI op op.length = wv op m) := Hid.mk' (by rw [hm, aheadI_succ])
    have x0 := hc1 m (by omega)
    have h0' : ((op.length : Int) == 0) = false := by simpa using (show ¬ (op.length : Int) = 0 by omega)
    have hm' : (op.length : Int) - 1 = (m : Int) := by omega
    have hlt : (m : Int) < (op.length : Int) := by omega
    clear hc1 hm h0
    go_enter Try.func72, Try.ntmps72
    go_wp2
    go_ret
    exact ⟨by rw [E.out]; rfl, rfl⟩

end Go.Proofs.Ytlaeomnacgjcgaa

namespace Go.Proofs.Ytlaeomnacgjcgaa
open Go.RowKit

end Go.Proofs.Ytlaeomnacgjcgaa

namespace Go.Proofs.Ytlaeomnacgjcgaa
open Go.RowKit

def ncs (l : List ND) (va vt : Nat → Value) : Nat → List Value
  | 0 => []
  | k + 1 => ncs l va vt k ++ [.int .i64 (ndK l k).up, .string (ndK l k).tg, va k, vt k]

theorem ncs_len (l : List ND) (va vt : Nat → Value) : ∀ k, (ncs l va vt k).length = k * 4
  | 0 => rfl
  | k + 1 => by simp [ncs, ncs_len l va vt k]; omega

theorem ncs_get (l : List ND) (va vt : Nat → Value) : ∀ (k j i : Nat), j < k → i < 4 → (ncs l va vt k)[j * 4 + i]? = ([.int .i64 (ndK l j).up, .string (ndK l j).tg, va j, vt j] : List Value)[i]?
  | 0, _, _, h, _ => absurd h (Nat.not_lt_zero _)
  | k + 1, j, i, h, hi => by
    unfold ncs
    by_cases e : j = k
    · subst e
      rw [List.getElem?_append_right (by rw [ncs_len]; omega), ncs_len, show j * 4 + i - j * 4 = i by omega]
    · rw [List.getElem?_append_left (by rw [ncs_len]; omega)]
      exact ncs_get l va vt k j i (by omega) hi

theorem ncs_congr {l l' : List ND} {va va' vt vt' : Nat → Value} : ∀ {k : Nat}, (∀ j, j < k → (ndK l j).up = (ndK l' j).up ∧ (ndK l j).tg = (ndK l' j).tg ∧ va j = va' j ∧ vt j = vt' j) → ncs l va vt k = ncs l' va' vt' k
  | 0, _ => rfl
  | k + 1, h => by
    obtain ⟨h1, h2, h3, h4⟩ := h k (by omega)
    unfold ncs
    rw [ncs_congr (k := k) (fun j hj => h j (by omega)), h1, h2, h3, h4]

theorem ncs_set {l l' : List ND} {va vt vt' : Nat → Value} {n i : Nat} {x : Value} : ∀ {k : Nat}, n < k → i < 4 → (∀ j, j < k → ¬ j = n → (ndK l j).up = (ndK l' j).up ∧ (ndK l j).tg = (ndK l' j).tg ∧ vt j = vt' j) →
    ([.int .i64 (ndK l n).up, .string (ndK l n).tg, va n, vt n] : List Value).set i x = [.int .i64 (ndK l' n).up, .string (ndK l' n).tg, va n, vt' n] → (ncs l va vt k).set (n * 4 + i) x = ncs l' va vt' k
  | 0, h, _, _, _ => absurd h (Nat.not_lt_zero _)
  | k + 1, h, hi, ho, hs => by
    unfold ncs
    by_cases e : n = k
    · subst e
      rw [List.set_append_right _ _ (by rw [ncs_len]; omega), ncs_len, show n * 4 + i - n * 4 = i by omega, hs]
      congr 1
      exact ncs_congr (fun j hj => by obtain ⟨h1, h2, h3⟩ := ho j (by omega) (by omega); exact ⟨h1, h2, rfl, h3⟩)
    · rw [List.set_append_left _ _ (by rw [ncs_len]; omega), ncs_set (k := k) (by omega) hi (fun j hj => ho j (by omega)) hs]
      obtain ⟨h1, h2, h3⟩ := ho k (by omega) (fun e' => e e'.symm)
      rw [h1, h2, h3]

theorem ndK_left {l m : List ND} {j : Nat} (h : j < l.length) : ndK (l ++ m) j = ndK l j := by simp [ndK, List.getD_eq_getElem?_getD, List.getElem?_append_left h]
theorem ndK_end {l : List ND} {t : ND} : ndK (l ++ [t]) l.length = t := by simp [ndK, List.getD_eq_getElem?_getD]
theorem ndK_set {l : List ND} {i j : Nat} {t : ND} (h : i < l.length) : ndK (l.set i t) j = if j = i then t else ndK l j := by
  unfold ndK
  by_cases e : j = i
  · subst e; simp [List.getD_eq_getElem?_getD, h]
  · rw [if_neg e]; simp [List.getD_eq_getElem?_getD, List.getElem?_set, Ne.symm e]

structure Kp (p : Nat → Prop) (w w' : World) : Prop where
  os : w'.os = w.os
  tape : w'.tape = w.tape
  output : w'.output = w.output
  size : w.heap.size ≤ w'.heap.size
  block : ∀ k, k < w.heap.size → p k → w'.heap[k]? = w.heap[k]?

theorem Kp.refl (p : Nat → Prop) (w : World) : Kp p w w := ⟨rfl, rfl, rfl, Nat.le_refl _, fun _ _ _ => rfl⟩
theorem Kp.trans {p : Nat → Prop} {a b c : World} (h : Kp p a b) (k : Kp p b c) : Kp p a c :=
  ⟨k.os.trans h.os, k.tape.trans h.tape, k.output.trans h.output, Nat.le_trans h.size k.size, fun i hi hp => (k.block i (Nat.lt_of_lt_of_le hi h.size) hp).trans (h.block i hi hp)⟩
theorem Kp.mono {p q : Nat → Prop} {a b : World} (h : Kp p a b) (hq : ∀ k, q k → p k) : Kp q a b := ⟨h.os, h.tape, h.output, h.size, fun k hk e => h.block k hk (hq k e)⟩
theorem Kp.of_below {p : Nat → Prop} {a b : World} (h : Below a.heap.size a b) : Kp p a b := ⟨h.os, h.tape, h.output, h.size, fun k hk _ => h.block k hk⟩
theorem Kp.of_grown {p : Nat → Prop} {r : Option Nat} {a b : World} (h : a.grownBy b r) (hp : ∀ k, p k → some k ≠ r) : Kp p a b := ⟨h.os, h.tape, h.output, h.size, fun k hk e => h.block k hk (hp k e)⟩
theorem Kp.setCell {p : Nat → Prop} {a w : World} (h : Kp p a w) {q : Addr} (hq : ¬ p q.block) (u : Value) : Kp p a (w.setCell q u) :=
  h.trans ⟨rfl, rfl, rfl, by simp [World.setCell], fun k hk e => Below.heap_setCell _ _ _ _ (fun e' => hq (e' ▸ e))⟩

theorem OA.keepOf {lo : Nat} {w w' : World} {v : Value} {l : List AT} {us : List Value} (h : OA lo w v l us) (hv : ∀ k, v.ownBlock = some k → k < w.heap.size → w'.heap[k]? = w.heap[k]?) (hu : ∀ i, i < l.length → ∀ k, (us.getD i undef).ownBlock = some k → k < w.heap.size → w'.heap[k]? = w.heap[k]?) : OA lo w' v l us :=
  ⟨h.len, own_of h.row (Nat.le_refl _) (fun k e _ => hv k e (h.row.lt k e).2), fun j hj => (h.val j hj).keep (fun k e hl => hu j hj k e hl), h.vlo, h.ap, h.av⟩

theorem OA.down {lo lo' : Nat} {w : World} {v : Value} {l : List AT} {us : List Value} (h : OA lo w v l us) (hl : lo' ≤ lo) : OA lo' w v l us := h.keep hl (fun _ _ _ => rfl)

structure NS (τ : Nat → Nat) (lo : Nat) (w : World) (v : Value) (l : List ND) (va vt : Nat → Value) (us : Nat → List Value) : Prop where
  row : w.ownsRow lo 44 4 v l.length (ncs l va vt l.length)
  att : ∀ j, j < l.length → OA lo w (va j) (ndK l j).at_ (us j)
  txt : ∀ j, j < l.length → w.ownsRow lo 5 1 (vt j) (ndK l j).tx.length (bcs (ndK l j).tx)
  rl : ∀ k, v.ownBlock = some k → τ k = 0
  al : ∀ j, j < l.length → ∀ k, (va j).ownBlock = some k → τ k = 2 * j + 3
  ul : ∀ j, j < l.length → ∀ i, i < (ndK l j).at_.length → ∀ k, ((us j).getD i undef).ownBlock = some k → τ k = 2 * j + 3
  tl : ∀ j, j < l.length → ∀ k, (vt j).ownBlock = some k → τ k = 2 * j + 4

theorem NS.keep {τ : Nat → Nat} {lo : Nat} {w w' : World} {v : Value} {l : List ND} {va vt : Nat → Value} {us : Nat → List Value} (h : NS τ lo w v l va vt us) (hk : Kp (fun k => τ k = 0 ∨ 3 ≤ τ k) w w') : NS τ lo w' v l va vt us := by
  refine ⟨own_of h.row (Nat.le_refl _) (fun k e _ => hk.block k (h.row.lt k e).2 (.inl (h.rl k e))), fun j hj => (h.att j hj).keepOf (fun k e hl => hk.block k hl (.inr (by have := h.al j hj k e; omega))) (fun i hi k e hl => hk.block k hl (.inr (by have := h.ul j hj i hi k e; omega))), fun j hj => own_of (h.txt j hj) (Nat.le_refl _) (fun k e _ => hk.block k ((h.txt j hj).lt k e).2 (.inr (by have := h.tl j hj k e; omega))), h.rl, h.al, h.ul, h.tl⟩

theorem NS.below {τ : Nat → Nat} {lo : Nat} {w w' : World} {v : Value} {l : List ND} {va vt : Nat → Value} {us : Nat → List Value} (h : NS τ lo w v l va vt us) (hb : Below w.heap.size w w') : NS τ lo w' v l va vt us := h.keep (Kp.of_below hb)

theorem NS.relabel {τ τ' : Nat → Nat} {lo : Nat} {w : World} {v : Value} {l : List ND} {va vt : Nat → Value} {us : Nat → List Value} (h : NS τ lo w v l va vt us) (ht : ∀ k, lo ≤ k → k < w.heap.size → τ' k = τ k) : NS τ' lo w v l va vt us := by
  refine ⟨h.row, h.att, h.txt, fun k e => ?_, fun j hj k e => ?_, fun j hj i hi k e => ?_, fun j hj k e => ?_⟩
  · have := h.row.lt k e; rw [ht k this.1 this.2]; exact h.rl k e
  · have := (h.att j hj).row.lt k e; rw [ht k this.1 this.2]; exact h.al j hj k e
  · rw [ht k ((h.att j hj).vlo i hi k e) (((h.att j hj).val i hi).lt k e)]; exact h.ul j hj i hi k e
  · have := (h.txt j hj).lt k e; rw [ht k this.1 this.2]; exact h.tl j hj k e

theorem NS.nil (τ : Nat → Nat) (lo : Nat) (w : World) (va vt : Nat → Value) (us : Nat → List Value) : NS τ lo w (.slice none 0 0) [] va vt us :=
  ⟨⟨rfl, .inl ⟨rfl, rfl⟩⟩, fun j h => absurd h (Nat.not_lt_zero _), fun j h => absurd h (Nat.not_lt_zero _), fun k e => by simp [Value.ownBlock] at e, fun j h => absurd h (Nat.not_lt_zero _), fun j h => absurd h (Nat.not_lt_zero _), fun j h => absurd h (Nat.not_lt_zero _)⟩

theorem NS.app {τ : Nat → Nat} {lo lo1 : Nat} {w w1 w2 : World} {v v' : Value} {l : List ND} {va vt : Nat → Value} {us : Nat → List Value} (h : NS τ lo w v l va vt us) (hw : Below w.heap.size w w1) {t : ND} {a x : Value} {u : List Value} (ha : OA lo1 w1 a t.at_ u) (h1 : w.heap.size ≤ lo1) (hx : w1.ownsRow lo1 5 1 x t.tx.length (bcs t.tx))
    (hap : ∀ k, x.ownBlock = some k → a.ownBlock ≠ some k ∧ ∀ i, i < t.at_.length → (u.getD i undef).ownBlock ≠ some k) (hlo : lo ≤ w.heap.size)
    (ho : w2.ownsRow lo 44 4 v' (l.length + 1) (ncs l va vt l.length ++ [.int .i64 t.up, .string t.tg, a, x])) (hg : w1.grownBy w2 v.ownBlock) (hv : v'.ownBlock = v.ownBlock ∨ v'.ownBlock = some w1.heap.size) :
    ∃ τ' va' vt' us', NS τ' lo w2 v' (l ++ [t]) va' vt' us' ∧ ∀ k, k < w.heap.size → τ' k = τ k := by
  classical
  have sz := hw.size
  have vold : ∀ k, v.ownBlock = some k → k < w.heap.size := fun k e => (h.row.lt k e).2
  have nu : ∀ k, w.heap.size ≤ k → some k ≠ v.ownBlock := fun k hk e => by have := vold k e.symm; omega
  have K1 : Kp (fun k => k < w.heap.size ∧ some k ≠ v.ownBlock) w w2 := ((Kp.of_below hw).trans (Kp.of_grown hg (fun k e => e.2)))
  have K2 : Kp (fun k => w.heap.size ≤ k) w1 w2 := Kp.of_grown hg (fun k e => nu k e)
  let τ' : Nat → Nat := fun k => if k < w.heap.size then τ k else if x.ownBlock = some k then 2 * l.length + 4 else if k < w1.heap.size then 2 * l.length + 3 else 0
  have t1 : ∀ k, k < w.heap.size → τ' k = τ k := fun k hk => by show (if _ then _ else _) = _; rw [if_pos hk]
  refine ⟨τ', fun j => if j = l.length then a else va j, fun j => if j = l.length then x else vt j, fun j => if j = l.length then u else us j, ⟨?_, fun j hj => ?_, fun j hj => ?_, fun k e => ?_, fun j hj k e => ?_, fun j hj i hi k e => ?_, fun j hj k e => ?_⟩, t1⟩
  · have e1 : (l ++ [t]).length = l.length + 1 := by simp
    have e2 : ncs (l ++ [t]) (fun j => if j = l.length then a else va j) (fun j => if j = l.length then x else vt j) (l.length + 1) = ncs l va vt l.length ++ [.int .i64 t.up, .string t.tg, a, x] := by
      have e3 : ncs (l ++ [t]) (fun j => if j = l.length then a else va j) (fun j => if j = l.length then x else vt j) l.length = ncs l va vt l.length := ncs_congr (fun j hj => by
        have hne : ¬ j = l.length := by omega
        exact ⟨by rw [ndK_left hj], by rw [ndK_left hj], if_neg hne, if_neg hne⟩)
      show ncs (l ++ [t]) _ _ l.length ++ [.int .i64 (ndK (l ++ [t]) l.length).up, .string (ndK (l ++ [t]) l.length).tg, (if l.length = l.length then a else va l.length), (if l.length = l.length then x else vt l.length)] = _
      rw [e3, ndK_end, if_pos rfl, if_pos rfl]
    rw [e1, e2]; exact ho
  · simp only [List.length_append, List.length_cons, List.length_nil] at hj
    by_cases e : j = l.length
    · subst e
      simp only [if_true]
      rw [ndK_end]
      exact (ha.keepOf (fun k e hl => K2.block k hl (by have := (ha.row.lt k e).1; omega)) (fun i hi k e hl => K2.block k hl (by have := ha.vlo i hi k e; omega))).down (by omega)
    · have hj' : j < l.length := by omega
      simp only [e, if_false]
      rw [ndK_left hj']
      have hh := h.att j hj'
      refine hh.keepOf (fun k e hl => K1.block k hl ⟨hl, fun e2 => ?_⟩) (fun i hi k e hl => K1.block k hl ⟨hl, fun e2 => ?_⟩)
      · have := h.rl k e2.symm; have := h.al j hj' k e; omega
      · have := h.rl k e2.symm; have := h.ul j hj' i hi k e; omega
  · simp only [List.length_append, List.length_cons, List.length_nil] at hj
    by_cases e : j = l.length
    · subst e
      simp only [if_true]
      rw [ndK_end]
      exact own_of hx (by omega) (fun k e hl => K2.block k (hx.lt k e).2 (by omega))
    · have hj' : j < l.length := by omega
      simp only [e, if_false]
      rw [ndK_left hj']
      exact own_of (h.txt j hj') (Nat.le_refl _) (fun k e _ => by
        have hl := ((h.txt j hj').lt k e).2
        exact K1.block k hl ⟨hl, fun e2 => by have := h.rl k e2.symm; have := h.tl j hj' k e; omega⟩)
  · rcases hv with hv | hv
    · rw [hv] at e; rw [t1 k (vold k e)]; exact h.rl k e
    · rw [hv] at e
      cases e
      show (if _ then _ else _) = _
      rw [if_neg (by omega), if_neg (fun e3 => by have := (hx.lt _ e3).2; omega), if_neg (by omega)]
  · simp only [List.length_append, List.length_cons, List.length_nil] at hj
    by_cases ej : j = l.length
    · subst ej
      simp only [if_true] at e
      have := ha.row.lt k e
      show (if _ then _ else _) = _
      rw [if_neg (by omega), if_neg (fun e3 => (hap k e3).1 e), if_pos this.2]
    · have hj' : j < l.length := by omega
      simp only [ej, if_false] at e
      rw [t1 k ((h.att j hj').row.lt k e).2]; exact h.al j hj' k e
  · simp only [List.length_append, List.length_cons, List.length_nil] at hj
    by_cases ej : j = l.length
    · subst ej
      simp only [if_true] at e
      rw [ndK_end] at hi
      have q1 := ha.vlo i hi k e
      have q2 := (ha.val i hi).lt k e
      show (if _ then _ else _) = _
      rw [if_neg (by omega), if_neg (fun e3 => (hap k e3).2 i hi e), if_pos q2]
    · have hj' : j < l.length := by omega
      simp only [ej, if_false] at e
      rw [ndK_left hj'] at hi
      rw [t1 k (((h.att j hj').val i hi).lt k e)]; exact h.ul j hj' i hi k e
  · simp only [List.length_append, List.length_cons, List.length_nil] at hj
    by_cases ej : j = l.length
    · subst ej
      simp only [if_true] at e
      have := hx.lt k e
      show (if _ then _ else _) = _
      rw [if_neg (by omega), if_pos e]
    · have hj' : j < l.length := by omega
      simp only [ej, if_false] at e
      rw [t1 k ((h.txt j hj').lt k e).2]; exact h.tl j hj' k e

theorem own_cellN {w : World} {base g n cap size : Nat} {e : TypeId} {xs : List Value} (h : w.ownsRow base e size (.slice (some ⟨g, 0, none⟩) n cap) n xs) (j : Nat) (hj : j < n * size) (x : Value) : (w.setCell ⟨g, j, none⟩ x).ownsRow base e size (.slice (some ⟨g, 0, none⟩) n cap) n (xs.set j x) := by
  refine ⟨by rw [List.length_set]; exact h.1, .inr ?_⟩
  rcases h.2 with ⟨h0, _⟩ | ⟨g', cap', cur, hv, hg, hh, hc, hm, hs, ht⟩
  · cases h0
  · cases hv
    refine ⟨g, cap, cur.setIfInBounds j x, rfl, hg, ?_, hc, hm, by simpa using hs, ?_⟩
    · simp [World.setCell, Array.getElem?_modify, hh]
    · rw [← ht]
      simp [List.take_set]

def setTx (l : List ND) (n : Nat) (b : Int) : List ND := l.set n ⟨(ndK l n).up, (ndK l n).tg, (ndK l n).at_, (ndK l n).tx ++ [b]⟩

theorem NS.grow {τ : Nat → Nat} {lo g cap n : Nat} {w w1 : World} {x' : Value} {l : List ND} {va vt : Nat → Value} {us : Nat → List Value} (h : NS τ lo w (.slice (some ⟨g, 0, none⟩) l.length cap) l va vt us) (hn : n < l.length) (b : Int) (hlo : lo ≤ w.heap.size)
    (ho : w1.ownsRow lo 5 1 x' ((ndK l n).tx.length + 1) (bcs ((ndK l n).tx ++ [b]))) (hg : w.grownBy w1 (vt n).ownBlock) (hx : x'.ownBlock = (vt n).ownBlock ∨ x'.ownBlock = some w.heap.size) :
    ∃ τ' vt', NS τ' lo (w1.setCell ⟨g, n * 4 + 3, none⟩ x') (.slice (some ⟨g, 0, none⟩) l.length cap) (setTx l n b) va vt' us ∧ ∀ k, k < w.heap.size → τ' k = τ k := by
  have hgl : g < w.heap.size ∧ lo ≤ g := by have := h.row.lt g rfl; omega
  have g0 : τ g = 0 := h.rl g rfl
  have tn : ∀ k, (vt n).ownBlock = some k → τ k = 2 * n + 4 ∧ k < w.heap.size := fun k e => ⟨h.tl n hn k e, ((h.txt n hn).lt k e).2⟩
  have KR : Kp (fun k => ¬ τ k = 2 * n + 4) w w1 := Kp.of_grown hg (fun k e e2 => e (tn k e2.symm).1)
  have KK : Kp (fun k => ¬ τ k = 2 * n + 4 ∧ ¬ τ k = 0) w (w1.setCell ⟨g, n * 4 + 3, none⟩ x') := (KR.mono (fun k e => e.1)).setCell (q := ⟨g, n * 4 + 3, none⟩) (fun e => e.2 g0) x'
  have len : (setTx l n b).length = l.length := by unfold setTx; rw [List.length_set]
  have nd : ∀ j, ndK (setTx l n b) j = if j = n then ⟨(ndK l n).up, (ndK l n).tg, (ndK l n).at_, (ndK l n).tx ++ [b]⟩ else ndK l j := fun j => ndK_set hn
  have natt : ∀ j, (ndK (setTx l n b) j).at_ = (ndK l j).at_ := fun j => by
    rw [nd]; by_cases e : j = n
    · subst e; rw [if_pos rfl]
    · rw [if_neg e]
  have ne : ∀ k, x'.ownBlock = some k → ¬ k = g := fun k e eg => by
    subst eg
    rcases hx with hx | hx
    · rw [hx] at e; have := (tn _ e).1; omega
    · rw [hx] at e; cases e; omega
  refine ⟨fun k => if k < w.heap.size then τ k else 2 * n + 4, fun j => if j = n then x' else vt j, ⟨?_, fun j hj => ?_, fun j hj => ?_, fun k e => ?_, fun j hj k e => ?_, fun j hj i hi k e => ?_, fun j hj k e => ?_⟩, fun k hk => if_pos hk⟩
  · have R1 : w1.ownsRow lo 44 4 (.slice (some ⟨g, 0, none⟩) l.length cap) l.length (ncs l va vt l.length) := own_of h.row (Nat.le_refl _) (fun k e _ => KR.block k (h.row.lt k e).2 (by have := h.rl k e; omega))
    have R2 := own_cellN R1 (n * 4 + 3) (by omega) x'
    rw [ncs_set (l' := setTx l n b) (vt' := fun j => if j = n then x' else vt j) hn (by omega) (fun j hj e => by rw [nd j, if_neg e, if_neg e]; exact ⟨rfl, rfl, rfl⟩) (by rw [nd n, if_pos rfl, if_pos rfl]; rfl)] at R2
    rw [len]; exact R2
  · rw [len] at hj
    rw [natt]
    exact (h.att j hj).keepOf (fun k e hl => KK.block k hl (by have := h.al j hj k e; omega)) (fun i hi k e hl => KK.block k hl (by have := h.ul j hj i hi k e; omega))
  · rw [len] at hj
    rw [nd j]
    by_cases e : j = n
    · subst e
      simp only [if_true]
      rw [List.length_append]
      exact own_of ho (Nat.le_refl _) (fun k e _ => Below.heap_setCell _ _ _ _ (fun e' => ne k e e'))
    · simp only [e, if_false]
      exact own_of (h.txt j hj) (Nat.le_refl _) (fun k e' _ => KK.block k ((h.txt j hj).lt k e').2 (by have := h.tl j hj k e'; omega))
  · have := (h.row.lt k e).2
    show (if _ then _ else _) = _
    rw [if_pos this]; exact h.rl k e
  · rw [len] at hj
    have := ((h.att j hj).row.lt k e).2
    show (if _ then _ else _) = _
    rw [if_pos this]; exact h.al j hj k e
  · rw [len] at hj
    rw [natt] at hi
    have := ((h.att j hj).val i hi).lt k e
    show (if _ then _ else _) = _
    rw [if_pos this]; exact h.ul j hj i hi k e
  · rw [len] at hj
    show (if _ then _ else _) = _
    by_cases ej : j = n
    · subst ej
      simp only [if_true] at e
      rcases hx with hx | hx
      · rw [hx] at e; rw [if_pos (tn k e).2]; exact (tn k e).1
      · rw [hx] at e; cases e; rw [if_neg (by omega)]
    · simp only [ej, if_false] at e
      rw [if_pos ((h.txt j hj).lt k e).2]; exact h.tl j hj k e

end Go.Proofs.Ytlaeomnacgjcgaa

namespace Go.Proofs.Ytlaeomnacgjcgaa
open Go.RowKit

def bigS : BS := ⟨[], [], true⟩

def addX (s : BS) (tg : ByteArray) (at_ : List AT) (tx : List Int) : BS :=
  if 60 ≤ s.nd.length then bigS else ⟨s.nd ++ [⟨aheadI s.op s.op.length, tg, at_, tx⟩], s.op, s.lg⟩

def textB (s : BS) : Bool := decide (0 < s.nd.length) && (((ndK s.nd (s.nd.length - 1)).tg.toList == []) && decide ((ndK s.nd (s.nd.length - 1)).up = aheadI s.op s.op.length))

def byteX (s : BS) (b : Int) : BS :=
  if textB s = true then (if 240 ≤ (ndK s.nd (s.nd.length - 1)).tx.length then bigS else ⟨setTx s.nd (s.nd.length - 1) b, s.op, s.lg⟩) else addX s ⟨#[]⟩ [] [b]

def clK (nd : List ND) (op : List Int) (nm : ByteArray) : Nat → Option Nat
  | 0 => none
  | k + 1 => if ((ndK nd (wv op k).toNat).tg.toList == nm.toList) = true then some k else clK nd op nm k

def closeX (s : BS) (nm : ByteArray) : BS :=
  match clK s.nd s.op nm s.op.length with
  | some k => ⟨s.nd, s.op.take k, s.lg⟩
  | none => s

def pBt (nm : ByteArray) : Bool := nm.toList == [112]

def start0 (s : BS) (nm : ByteArray) : BS := if pBt nm = true then closeX s nm else s

def openX (s : BS) (nm : ByteArray) (sh : Bool) (n : Nat) : BS := if s.lg = false ∧ voidB nm = false ∧ sh = false then ⟨s.nd, s.op ++ [(n : Int)], s.lg⟩ else s

def startX (s : BS) (nm : ByteArray) (at_ : List AT) (sh : Bool) : BS :=
  if 7 ≤ (start0 s nm).op.length then start0 s nm else openX (addX (start0 s nm) nm at_ []) nm sh (start0 s nm).nd.length

def putX (s : BS) (t : TK) : BS :=
  if s.lg = true then s else if t.kd = 1 then byteX s t.by_ else if t.kd = 2 then startX s t.nm t.at_ t.sh else if t.kd = 3 then closeX s t.nm else s

structure GS (s : BS) : Prop where
  n : s.nd.length ≤ 60
  o : s.op.length ≤ 7
  pl : ∀ j, j < s.op.length → 0 ≤ wv s.op j ∧ wv s.op j < (s.nd.length : Int)
  tx : ∀ j, j < s.nd.length → (ndK s.nd j).tx.length ≤ 240
  lg : s.lg = true → s.nd = [] ∧ s.op = []

theorem gs_big : GS bigS := ⟨by simp [bigS], by simp [bigS], fun j h => absurd h (Nat.not_lt_zero _), fun j h => absurd h (Nat.not_lt_zero _), fun _ => ⟨rfl, rfl⟩⟩

theorem gs_of {s : BS} (h : bldF s = 0) : GS s := by
  unfold bldF at h
  by_cases ht : treeF s.nd = 0
  rotate_left
  · rw [if_neg ht] at h; exact absurd h ht
  rw [if_pos ht] at h
  by_cases hb : s.lg = true ∧ (0 < s.nd.length ∨ 0 < s.op.length)
  · rw [if_pos hb] at h; exact absurd h (by decide)
  rw [if_neg hb] at h
  unfold restF at h
  by_cases ho : opensF s.nd s.op = 0
  rotate_left
  · rw [if_neg ho] at h; exact absurd h ho
  rw [if_pos ho] at h
  by_cases h7 : 7 < s.op.length
  · rw [if_pos h7] at h; exact absurd h (by decide)
  refine ⟨treeF_len ht, by omega, fun j hj => ?_, fun j hj => ?_, fun hl => ?_⟩
  · have := firstF_zero _ _ _ ho j hj
    rw [Nat.zero_add] at this
    by_cases hr : 0 ≤ wv s.op j ∧ wv s.op j < (s.nd.length : Int)
    · exact hr
    · rw [openF_out hr] at this; exact absurd this (by decide)
  · have hk := mark_kind (one_mark (treeF_ones ht j hj))
    unfold kindB at hk
    by_cases e : ((ndK s.nd j).tg.toList == []) = true
    · rw [if_pos e] at hk
      simp only [Bool.and_eq_true, decide_eq_true_eq] at hk
      omega
    · rw [if_neg e] at hk
      have := of_decide_eq_true hk
      omega
  · have h1 : ¬ 0 < s.nd.length := fun h => hb ⟨hl, .inl h⟩
    have h2 : ¬ 0 < s.op.length := fun h => hb ⟨hl, .inr h⟩
    exact ⟨List.eq_nil_of_length_eq_zero (by omega), List.eq_nil_of_length_eq_zero (by omega)⟩

theorem gs_add {s : BS} (h : GS s) (hl : s.lg = false) {tg : ByteArray} {at_ : List AT} {tx : List Int} (hx : tx.length ≤ 240) : GS (addX s tg at_ tx) := by
  unfold addX
  by_cases h6 : 60 ≤ s.nd.length
  · rw [if_pos h6]; exact gs_big
  · rw [if_neg h6]
    refine ⟨by simp; omega, h.o, fun j hj => ?_, fun j hj => ?_, fun e => absurd (hl.symm.trans e) (by decide)⟩
    · have := h.pl j hj; simp; omega
    · simp only [List.length_append, List.length_cons, List.length_nil] at hj
      by_cases e : j = s.nd.length
      · subst e; rw [ndK_end]; exact hx
      · rw [ndK_left (by omega)]; exact h.tx j (by omega)

theorem setTx_len (l : List ND) (n : Nat) (b : Int) : (setTx l n b).length = l.length := by unfold setTx; rw [List.length_set]

theorem gs_byte {s : BS} (h : GS s) (hl : s.lg = false) (b : Int) : GS (byteX s b) := by
  unfold byteX
  by_cases ht : textB s = true
  · rw [if_pos ht]
    by_cases h2 : 240 ≤ (ndK s.nd (s.nd.length - 1)).tx.length
    · rw [if_pos h2]; exact gs_big
    · rw [if_neg h2]
      have h0 : 0 < s.nd.length := by
        unfold textB at ht; rw [Bool.and_eq_true] at ht; exact of_decide_eq_true ht.1
      refine ⟨by rw [setTx_len]; exact h.n, h.o, fun j hj => by rw [setTx_len]; exact h.pl j hj, fun j hj => ?_, fun e => absurd (hl.symm.trans e) (by decide)⟩
      rw [setTx_len] at hj
      unfold setTx
      rw [ndK_set (by omega)]
      by_cases e : j = s.nd.length - 1
      · subst e; rw [if_pos rfl]; simp; omega
      · rw [if_neg e]; exact h.tx j hj
  · rw [if_neg ht]; exact gs_add h hl (by simp)

theorem clK_lt {nd : List ND} {op : List Int} {nm : ByteArray} : ∀ {n k : Nat}, clK nd op nm n = some k → k < n
  | 0, _, h => by simp [clK] at h
  | n + 1, k, h => by
    unfold clK at h
    split at h
    · cases h; omega
    · have := clK_lt h; omega

theorem close_cases (s : BS) (nm : ByteArray) : (clK s.nd s.op nm s.op.length = none ∧ closeX s nm = s) ∨ ∃ k, clK s.nd s.op nm s.op.length = some k ∧ k < s.op.length ∧ closeX s nm = ⟨s.nd, s.op.take k, s.lg⟩ := by
  unfold closeX
  cases h : clK s.nd s.op nm s.op.length with
  | none => exact .inl ⟨rfl, rfl⟩
  | some k => exact .inr ⟨k, rfl, clK_lt h, rfl⟩

theorem gs_close {s : BS} (h : GS s) (nm : ByteArray) : GS (closeX s nm) := by
  rcases close_cases s nm with ⟨_, e⟩ | ⟨k, _, hk, e⟩
  · rw [e]; exact h
  · rw [e]
    have ln : (s.op.take k).length = k := by rw [List.length_take]; omega
    refine ⟨h.n, by have := h.o; rw [ln]; omega, fun j hj => ?_, h.tx, fun hl => ?_⟩
    · rw [ln] at hj
      have : wv (s.op.take k) j = wv s.op j := wv_take hj
      rw [this]; exact h.pl j (by omega)
    · obtain ⟨h1, h2⟩ := h.lg hl
      exact ⟨h1, by rw [h2]; simp⟩

theorem close_nd (s : BS) (nm : ByteArray) : (closeX s nm).nd = s.nd ∧ (closeX s nm).lg = s.lg := by
  rcases close_cases s nm with ⟨_, e⟩ | ⟨k, _, _, e⟩ <;> rw [e] <;> exact ⟨rfl, rfl⟩

theorem start0_nd (s : BS) (nm : ByteArray) : (start0 s nm).nd = s.nd ∧ (start0 s nm).lg = s.lg := by
  unfold start0
  by_cases e : pBt nm = true
  · rw [if_pos e]; exact close_nd s nm
  · rw [if_neg e]; exact ⟨rfl, rfl⟩

theorem gs_start0 {s : BS} (h : GS s) (nm : ByteArray) : GS (start0 s nm) := by
  unfold start0
  by_cases e : pBt nm = true
  · rw [if_pos e]; exact gs_close h nm
  · rw [if_neg e]; exact h

theorem gs_start {s : BS} (h : GS s) (hl : s.lg = false) (nm : ByteArray) (at_ : List AT) (sh : Bool) : GS (startX s nm at_ sh) := by
  unfold startX
  have h0 := gs_start0 h nm
  have hl0 : (start0 s nm).lg = false := (start0_nd s nm).2.trans hl
  by_cases h7 : 7 ≤ (start0 s nm).op.length
  · rw [if_pos h7]; exact h0
  · rw [if_neg h7]
    have h1 := gs_add h0 hl0 (tg := nm) (at_ := at_) (tx := []) (by simp)
    unfold openX
    by_cases e : (addX (start0 s nm) nm at_ []).lg = false ∧ voidB nm = false ∧ sh = false
    · rw [if_pos e]
      have ne : ¬ 60 ≤ (start0 s nm).nd.length := fun h6 => by
        have := e.1; unfold addX at this; rw [if_pos h6] at this; exact absurd this (by simp [bigS])
      have ea : addX (start0 s nm) nm at_ [] = ⟨(start0 s nm).nd ++ [⟨aheadI (start0 s nm).op (start0 s nm).op.length, nm, at_, []⟩], (start0 s nm).op, (start0 s nm).lg⟩ := by unfold addX; rw [if_neg ne]
      refine ⟨h1.n, ?_, fun j hj => ?_, h1.tx, fun hl' => absurd (e.1.symm.trans hl') (by decide)⟩
      · rw [ea]; simp; omega
      · rw [ea] at hj ⊢
        simp only [List.length_append, List.length_cons, List.length_nil] at hj ⊢
        by_cases ej : j = (start0 s nm).op.length
        · subst ej; rw [wv_end]; omega
        · rw [wv_left (by omega)]; have := h0.pl j (by omega); omega
    · rw [if_neg e]; exact h1

theorem gs_put {s : BS} (h : GS s) (t : TK) : GS (putX s t) := by
  unfold putX
  by_cases hl : s.lg = true
  · rw [if_pos hl]; exact h
  · rw [if_neg hl]
    have hl' : s.lg = false := by simpa using hl
    by_cases h1 : t.kd = 1
    · rw [if_pos h1]; exact gs_byte h hl' _
    · rw [if_neg h1]
      by_cases h2 : t.kd = 2
      · rw [if_pos h2]; exact gs_start h hl' _ _ _
      · rw [if_neg h2]
        by_cases h3 : t.kd = 3
        · rw [if_pos h3]; exact gs_close h _
        · rw [if_neg h3]; exact h

def nS (s : BS) : Nat := s.nd.length + nssz s.nd
def tS (t : TK) : Nat := t.nm.size + t.at_.length + asz t.at_

theorem nssz_snoc (l : List ND) (t : ND) : nssz (l ++ [t]) = nssz l + nsz t := by
  induction l with
  | nil => simp [nssz]
  | cons x r ih => simp only [List.cons_append, nssz, ih]; omega

theorem nssz_set (l : List ND) : ∀ (n : Nat) (t : ND), n < l.length → nssz (l.set n t) + nsz (ndK l n) = nssz l + nsz t := by
  induction l with
  | nil => intro n t h; exact absurd h (Nat.not_lt_zero _)
  | cons x r ih =>
    intro n t h
    cases n with
    | zero => simp [nssz, ndK]; omega
    | succ n =>
      have := ih n t (by simpa using h)
      have e : ndK (x :: r) (n + 1) = ndK r n := by simp [ndK]
      simp only [List.set_cons_succ, nssz]
      rw [e]; omega

theorem nS_add (s : BS) (tg : ByteArray) (at_ : List AT) (tx : List Int) : nS (addX s tg at_ tx) ≤ nS s + 1 + tg.size + at_.length + asz at_ + tx.length := by
  unfold addX
  by_cases h6 : 60 ≤ s.nd.length
  · rw [if_pos h6]; simp [nS, bigS, nssz]
  · rw [if_neg h6]
    unfold nS
    simp only [List.length_append, List.length_cons, List.length_nil]
    rw [nssz_snoc]
    simp only [nsz]
    omega

theorem nS_byte (s : BS) (b : Int) : nS (byteX s b) ≤ nS s + 2 := by
  unfold byteX
  by_cases ht : textB s = true
  · rw [if_pos ht]
    by_cases h2 : 240 ≤ (ndK s.nd (s.nd.length - 1)).tx.length
    · rw [if_pos h2]; simp [nS, bigS, nssz]
    · rw [if_neg h2]
      have h0 : 0 < s.nd.length := by
        unfold textB at ht; rw [Bool.and_eq_true] at ht; exact of_decide_eq_true ht.1
      have := nssz_set s.nd (s.nd.length - 1) ⟨(ndK s.nd (s.nd.length - 1)).up, (ndK s.nd (s.nd.length - 1)).tg, (ndK s.nd (s.nd.length - 1)).at_, (ndK s.nd (s.nd.length - 1)).tx ++ [b]⟩ (by omega)
      unfold nS
      simp only [setTx_len]
      unfold setTx
      unfold nsz at this
      simp only [List.length_append, List.length_cons, List.length_nil] at this
      omega
  · rw [if_neg ht]
    have := nS_add s ⟨#[]⟩ [] [b]
    have e : (⟨#[]⟩ : ByteArray).size = 0 := rfl
    simp only [asz, List.length_cons, List.length_nil, e] at this
    omega

theorem nS_put (s : BS) (t : TK) : nS (putX s t) ≤ nS s + 2 + tS t := by
  unfold putX
  by_cases hl : s.lg = true
  · rw [if_pos hl]; omega
  · rw [if_neg hl]
    by_cases h1 : t.kd = 1
    · rw [if_pos h1]; have := nS_byte s t.by_; omega
    · rw [if_neg h1]
      by_cases h2 : t.kd = 2
      · rw [if_pos h2]
        unfold startX
        have e0 : nS (start0 s t.nm) = nS s := by unfold nS; rw [(start0_nd s t.nm).1]
        by_cases h7 : 7 ≤ (start0 s t.nm).op.length
        · rw [if_pos h7, e0]; omega
        · rw [if_neg h7]
          have := nS_add (start0 s t.nm) t.nm t.at_ []
          have e1 : nS (openX (addX (start0 s t.nm) t.nm t.at_ []) t.nm t.sh (start0 s t.nm).nd.length) = nS (addX (start0 s t.nm) t.nm t.at_ []) := by
            unfold openX; split <;> rfl
          rw [e1]
          unfold tS
          simp only [List.length_nil] at this
          omega
      · rw [if_neg h2]
        by_cases h3 : t.kd = 3
        · rw [if_pos h3]; unfold nS; rw [(close_nd s t.nm).1]; omega
        · rw [if_neg h3]; omega

end Go.Proofs.Ytlaeomnacgjcgaa

namespace Go.Proofs.Ytlaeomnacgjcgaa
open Go.RowKit

end Go.Proofs.Ytlaeomnacgjcgaa

namespace Go.Proofs.Ytlaeomnacgjcgaa
open Go.RowKit

structure NQ (τ : Nat → Nat) (lo : Nat) (w : World) (v : Value) (l : List ND) (va vt : Nat → Value) (us : Nat → List Value) : Prop where
  row : w.ownsRow lo 44 4 v l.length (ncs l va vt l.length)
  att : ∀ j, j < l.length → OA lo w (va j) (ndK l j).at_ (us j)
  txt : ∀ j, j < l.length → OB w (vt j) (ndK l j).tx
  rl : ∀ k, v.ownBlock = some k → τ k = 0
  al : ∀ j, j < l.length → ∀ k, (va j).ownBlock = some k → τ k = 2 * j + 3
  ul : ∀ j, j < l.length → ∀ i, i < (ndK l j).at_.length → ∀ k, ((us j).getD i undef).ownBlock = some k → τ k = 2 * j + 3
  tl : ∀ j, j < l.length → ∀ k, (vt j).ownBlock = some k → τ k = 2 * j + 4

theorem NS.nq {τ : Nat → Nat} {lo : Nat} {w : World} {v : Value} {l : List ND} {va vt : Nat → Value} {us : Nat → List Value} (h : NS τ lo w v l va vt us) : NQ τ lo w v l va vt us :=
  ⟨h.row, h.att, fun j hj => (OB.of_own (h.txt j hj)).1, h.rl, h.al, h.ul, h.tl⟩

theorem NQ.spot {τ : Nat → Nat} {lo : Nat} {w : World} {v : Value} {l : List ND} {va vt : Nat → Value} {us : Nat → List Value} (h : NQ τ lo w v l va vt us) (h0 : 0 < l.length) : ∃ g cap, v = .slice (some ⟨g, 0, none⟩) l.length cap ∧ lo ≤ g ∧ g < w.heap.size ∧ (∀ k i, k < l.length → i < 4 → w.cell? ⟨g, k * 4 + i, none⟩ = ([.int .i64 (ndK l k).up, .string (ndK l k).tg, va k, vt k] : List Value)[i]?) ∧ ∀ i, w.frozen? ⟨g, i, none⟩ = false := by
  rcases h.row.2 with ⟨rfl, h9⟩ | ⟨g, cap, cur, rfl, hg, hh, hc, hm, hs, ht⟩
  · omega
  · refine ⟨g, cap, rfl, hg, ?_, fun k i hk hi => ?_, fun i => Lib.frozen_of_heap hh _⟩
    · exact Nat.lt_of_not_le fun hn => by rw [Array.getElem?_eq_none hn] at hh; cases hh
    · have q : w.cell? ⟨g, k * 4 + i, none⟩ = cur[k * 4 + i]? := Lib.cell_of_heap hh _
      rw [q, ← ncs_get l va vt l.length k i hk hi, ← ht, List.getElem?_take_of_lt (by omega)]
      simp

theorem NQ.at {τ : Nat → Nat} {lo : Nat} {w : World} {v : Value} {l : List ND} {va vt : Nat → Value} {us : Nat → List Value} (h : NQ τ lo w v l va vt us) : ∃ a c, v = .slice a l.length c ∧ NsAt w a l := by
  by_cases h0 : 0 < l.length
  · obtain ⟨g, cap, e, h1, h2, h4, _⟩ := h.spot h0
    refine ⟨_, _, e, .inr ⟨g, 0, rfl, h2, fun k hk => ?_⟩⟩
    have c := fun i (hi : i < 4) => h4 k i hk hi
    obtain ⟨pa, ca, ea, ha⟩ := (h.att k hk).at
    obtain ⟨pt, ct, et, ht⟩ := (h.txt k hk).len
    have hc : (ndK l k).at_.length ≤ ca := by
      obtain ⟨a9, c9, e9, h9⟩ := own_len (h.att k hk).row
      rw [ea] at e9; cases e9; exact h9
    simp only [Nat.zero_add]
    refine ⟨c 0 (by omega), c 1 (by omega), ⟨pa, ca, by rw [c 2 (by omega), ← ea]; rfl, hc, ha⟩, ⟨pt, ct, by rw [c 3 (by omega), ← et]; rfl, ht⟩⟩
  · obtain ⟨a, c, e, _⟩ := own_len h.row
    exact ⟨a, c, e, .inl (List.eq_nil_of_length_eq_zero (by omega))⟩

end Go.Proofs.Ytlaeomnacgjcgaa

namespace Go.Proofs.Ytlaeomnacgjcgaa
open Go.RowKit

end Go.Proofs.Ytlaeomnacgjcgaa

namespace Go.Proofs.Ytlaeomnacgjcgaa
open Go.RowKit

end Go.Proofs.Ytlaeomnacgjcgaa

namespace Go.Proofs.Ytlaeomnacgjcgaa
open Go.RowKit

def ptB : Value → Nat
  | .pointer (some a) => a.block + 1
  | _ => 0

def OE (τ : Nat → Nat) (lo : Nat) (w : World) (nd : List ND) (op : List Int) : Nat → Value → Prop
  | 0, v => v = .pointer none
  | k + 1, v => ∃ b u, v = .pointer (some ⟨b, 0, none⟩) ∧ lo ≤ b ∧ τ b = 1 ∧ w.rowIs b 0 3 (r3 (.int .i64 (wv op k)) (.string (ndK nd (wv op k).toNat).tg) u) ∧ ptB u ≤ b ∧ OE τ lo w nd op k u

theorem OE.keep {τ : Nat → Nat} {lo : Nat} {w w' : World} {nd : List ND} {op : List Int} (hk : Kp (fun k => τ k = 1) w w') : ∀ {k : Nat} {v : Value}, OE τ lo w nd op k v → OE τ lo w' nd op k v
  | 0, _, h => h
  | k + 1, _, ⟨b, u, e, h1, h2, h3, hp, h4⟩ => ⟨b, u, e, h1, h2, h3.of_block (hk.block b h3.lt h2), hp, OE.keep hk h4⟩

theorem OE.relabel {τ τ' : Nat → Nat} {lo : Nat} {w : World} {nd : List ND} {op : List Int} (ht : ∀ k, lo ≤ k → k < w.heap.size → τ' k = τ k) : ∀ {k : Nat} {v : Value}, OE τ lo w nd op k v → OE τ' lo w nd op k v
  | 0, _, h => h
  | k + 1, _, ⟨b, u, e, h1, h2, h3, hp, h4⟩ => ⟨b, u, e, h1, (ht b h1 h3.lt).trans h2, h3, hp, OE.relabel ht h4⟩

theorem OE.congr {τ : Nat → Nat} {lo : Nat} {w : World} {nd nd' : List ND} {op op' : List Int} : ∀ {k : Nat} {v : Value}, (∀ j, j < k → wv op' j = wv op j ∧ (ndK nd' (wv op j).toNat).tg = (ndK nd (wv op j).toNat).tg) → OE τ lo w nd op k v → OE τ lo w nd' op' k v
  | 0, _, _, h => h
  | k + 1, _, hc, ⟨b, u, e, h1, h2, h3, hp, h4⟩ => by
    obtain ⟨c1, c2⟩ := hc k (by omega)
    exact ⟨b, u, e, h1, h2, by rw [c1, c2]; exact h3, hp, OE.congr (fun j hj => hc j (by omega)) h4⟩

theorem OE.move {τ τ' : Nat → Nat} {lo : Nat} {w w' : World} {nd : List ND} {op : List Int} (hk : ∀ k, k < w.heap.size → τ k = 1 → w'.heap[k]? = w.heap[k]?) (ht : ∀ k, k < w.heap.size → τ' k = τ k) : ∀ {k : Nat} {v : Value}, OE τ lo w nd op k v → OE τ' lo w' nd op k v
  | 0, _, h => h
  | k + 1, _, ⟨b, u, e, h1, h2, h3, hp, h4⟩ => ⟨b, u, e, h1, (ht b h3.lt).trans h2, h3.of_block (hk b h3.lt h2), hp, OE.move hk ht h4⟩

def OpP (im : Bool) (τ : Nat → Nat) (lo : Nat) (w : World) (nd : List ND) (op : List Int) (v : Value) : Prop :=
  match im with
  | false => w.ownsRow lo 2 1 v op.length (ics op) ∧ ∀ k, v.ownBlock = some k → τ k = 1
  | true => OE τ lo w nd op op.length v

theorem OpP.keep {im : Bool} {τ : Nat → Nat} {lo : Nat} {w w' : World} {nd : List ND} {op : List Int} {v : Value} (h : OpP im τ lo w nd op v) (hk : Kp (fun k => τ k = 1) w w') : OpP im τ lo w' nd op v := by
  cases im with
  | false => exact ⟨own_of h.1 (Nat.le_refl _) (fun k e _ => hk.block k (h.1.lt k e).2 (h.2 k e)), h.2⟩
  | true => exact OE.keep hk h

theorem OpP.relabel {im : Bool} {τ τ' : Nat → Nat} {lo : Nat} {w : World} {nd : List ND} {op : List Int} {v : Value} (h : OpP im τ lo w nd op v) (ht : ∀ k, lo ≤ k → k < w.heap.size → τ' k = τ k) : OpP im τ' lo w nd op v := by
  cases im with
  | false => exact ⟨h.1, fun k e => by have := h.1.lt k e; rw [ht k this.1 this.2]; exact h.2 k e⟩
  | true => exact OE.relabel ht h

theorem OpP.nodes {im : Bool} {τ : Nat → Nat} {lo : Nat} {w : World} {nd nd' : List ND} {op : List Int} {v : Value} (h : OpP im τ lo w nd op v) (ht : ∀ j, j < op.length → (ndK nd' (wv op j).toNat).tg = (ndK nd (wv op j).toNat).tg) : OpP im τ lo w nd' op v := by
  cases im with
  | false => exact h
  | true => exact OE.congr (fun j hj => ⟨rfl, ht j hj⟩) h

theorem OpP.move {im : Bool} {τ τ' : Nat → Nat} {lo : Nat} {w w' : World} {nd : List ND} {op : List Int} {v : Value} (h : OpP im τ lo w nd op v) (hk : ∀ k, k < w.heap.size → τ k = 1 → w'.heap[k]? = w.heap[k]?) (ht : ∀ k, k < w.heap.size → τ' k = τ k) : OpP im τ' lo w' nd op v := by
  cases im with
  | false => exact ⟨own_of h.1 (Nat.le_refl _) (fun k e _ => hk k (h.1.lt k e).2 (h.2 k e)), fun k e => (ht k (h.1.lt k e).2).trans (h.2 k e)⟩
  | true => exact OE.move hk ht h

def noneV (im : Bool) : Value := match im with
  | false => .slice none 0 0
  | true => .pointer none
theorem OpP.nil (im : Bool) (τ : Nat → Nat) (lo : Nat) (w : World) (nd : List ND) : OpP im τ lo w nd [] (noneV im) := by
  cases im with
  | false => exact ⟨⟨rfl, .inl ⟨rfl, rfl⟩⟩, fun k e => by simp [noneV, Value.ownBlock] at e⟩
  | true => rfl

structure ZS (im : Bool) (Tb : TypeId) (w0 : World) (lo g : Nat) (s : BS) (w : World) (τ : Nat → Nat) (vn vo : Value) (va vt : Nat → Value) (us : Nat → List Value) : Prop where
  box : w.rowIs g Tb 3 (r3 vn vo (.bool s.lg))
  ns : NS τ lo w vn s.nd va vt us
  op : OpP im τ lo w s.nd s.op vo
  gl : τ g = 2
  bl : Below lo w0 w
  sz : lo ≤ w.heap.size
  glo : lo ≤ g

def ZB (im : Bool) (Tb : TypeId) (w0 : World) (lo g : Nat) (s : BS) (w : World) : Prop := ∃ τ vn vo va vt us, ZS im Tb w0 lo g s w τ vn vo va vt us

theorem ZS.zb {im : Bool} {Tb : TypeId} {w0 : World} {lo g : Nat} {s : BS} {w : World} {τ : Nat → Nat} {vn vo : Value} {va vt : Nat → Value} {us : Nat → List Value} (h : ZS im Tb w0 lo g s w τ vn vo va vt us) : ZB im Tb w0 lo g s w := ⟨τ, vn, vo, va, vt, us, h⟩

theorem ZS.below {im : Bool} {Tb : TypeId} {w0 : World} {lo g : Nat} {s : BS} {w w' : World} {τ : Nat → Nat} {vn vo : Value} {va vt : Nat → Value} {us : Nat → List Value} (h : ZS im Tb w0 lo g s w τ vn vo va vt us) (hb : Below w.heap.size w w') : ZS im Tb w0 lo g s w' τ vn vo va vt us :=
  ⟨rowB h.box hb, h.ns.below hb, h.op.keep (Kp.of_below hb), h.gl, h.bl.trans (hb.mono h.sz), Nat.le_trans h.sz hb.size, h.glo⟩

theorem r3_set0 {w : World} {g : Nat} {T : TypeId} {x y z u : Value} (h : w.rowIs g T 3 (r3 x y z)) : (w.setCell ⟨g, 0, none⟩ u).rowIs g T 3 (r3 u y z) :=
  (h.set 0 u).congr (fun i hi => by have : i = 0 ∨ i = 1 ∨ i = 2 := by omega
                                    rcases this with rfl | rfl | rfl <;> rfl)
theorem r3_set1 {w : World} {g : Nat} {T : TypeId} {x y z u : Value} (h : w.rowIs g T 3 (r3 x y z)) : (w.setCell ⟨g, 1, none⟩ u).rowIs g T 3 (r3 x u z) :=
  (h.set 1 u).congr (fun i hi => by have : i = 0 ∨ i = 1 ∨ i = 2 := by omega
                                    rcases this with rfl | rfl | rfl <;> rfl)
theorem r3_set2 {w : World} {g : Nat} {T : TypeId} {x y z u : Value} (h : w.rowIs g T 3 (r3 x y z)) : (w.setCell ⟨g, 2, none⟩ u).rowIs g T 3 (r3 x y u) :=
  (h.set 2 u).congr (fun i hi => by have : i = 0 ∨ i = 1 ∨ i = 2 := by omega
                                    rcases this with rfl | rfl | rfl <;> rfl)

theorem ZS.add {im : Bool} {Tb : TypeId} {w0 : World} {lo g : Nat} {s : BS} {wa w1 w2 : World} {τ : Nat → Nat} {vn vo : Value} {va vt : Nat → Value} {us : Nat → List Value} (h : ZS im Tb w0 lo g s wa τ vn vo va vt us) (hs : GS s) (h6 : s.nd.length < 60) {lo1 : Nat} {tg : ByteArray} {at_ : List AT} {tx : List Int} {a x v' : Value} {u : List Value}
    (hw : Below wa.heap.size wa w1) (ha : OA lo1 w1 a at_ u) (h1 : wa.heap.size ≤ lo1) (hx : w1.ownsRow lo1 5 1 x tx.length (bcs tx)) (hap : ∀ k, x.ownBlock = some k → a.ownBlock ≠ some k ∧ ∀ i, i < at_.length → (u.getD i undef).ownBlock ≠ some k)
    (ho : w2.ownsRow lo 44 4 v' (s.nd.length + 1) (ncs s.nd va vt s.nd.length ++ [.int .i64 (aheadI s.op s.op.length), .string tg, a, x])) (hgr : w1.grownBy w2 vn.ownBlock) (hv : v'.ownBlock = vn.ownBlock ∨ v'.ownBlock = some w1.heap.size) :
    ZB im Tb w0 lo g (addX s tg at_ tx) (w2.setCell ⟨g, 0, none⟩ v') := by
  have ea : addX s tg at_ tx = ⟨s.nd ++ [⟨aheadI s.op s.op.length, tg, at_, tx⟩], s.op, s.lg⟩ := by unfold addX; rw [if_neg (by omega)]
  obtain ⟨τ', va', vt', us', hns, ht⟩ := h.ns.app hw (t := ⟨aheadI s.op s.op.length, tg, at_, tx⟩) ha h1 hx hap h.sz ho hgr hv
  have hgl := h.box.lt
  have vl : ∀ k, vn.ownBlock = some k → τ k = 0 := h.ns.rl
  have KG : Kp (fun k => ¬ τ k = 0 ∧ k < wa.heap.size) wa w2 := (Kp.of_below hw).trans (Kp.of_grown hgr (fun k e e2 => e.1 (vl k e2.symm)))
  have g2 : τ' g = 2 := (ht g hgl).trans h.gl
  have szz : wa.heap.size ≤ w2.heap.size := KG.size
  rw [ea]
  refine ⟨τ', v', vo, va', vt', us', ?_, ?_, ?_, g2, ?_, ?_, h.glo⟩
  · exact r3_set0 (h.box.of_block (KG.block g hgl ⟨by have := h.gl; omega, hgl⟩))
  · exact hns.keep ((Kp.refl _ _).setCell (q := ⟨g, 0, none⟩) (by show ¬ (τ' g = 0 ∨ 3 ≤ τ' g); omega) _)
  · have o2 : OpP im τ' lo w2 s.nd s.op vo := h.op.move (fun k hk e => KG.block k hk ⟨by omega, hk⟩) ht
    exact (o2.keep ((Kp.refl _ _).setCell (q := ⟨g, 0, none⟩) (by show ¬ τ' g = 1; omega) _)).nodes (fun j hj => by
      have := hs.pl j hj
      dsimp only
      rw [ndK_left (by omega)])
  · exact ((h.bl.trans (hw.mono h.sz)).grown hgr (Nat.le_trans h.sz hw.size) (own_lo h.ns.row)).setCell (p := ⟨g, 0, none⟩) h.glo _
  · have := h.sz; simp [World.setCell]; omega

theorem ZS.big {im : Bool} {Tb : TypeId} {w0 : World} {lo g : Nat} {s : BS} {w : World} {τ : Nat → Nat} {vn vo : Value} {va vt : Nat → Value} {us : Nat → List Value} (h : ZS im Tb w0 lo g s w τ vn vo va vt us) :
    ZB im Tb w0 lo g bigS (((w.setCell ⟨g, 0, none⟩ (.slice none 0 0)).setCell ⟨g, 1, none⟩ (noneV im)).setCell ⟨g, 2, none⟩ (.bool true)) := by
  refine ⟨τ, .slice none 0 0, noneV im, va, vt, us, r3_set2 (r3_set1 (r3_set0 h.box)), NS.nil _ _ _ _ _ _, OpP.nil _ _ _ _ _, h.gl, ?_, ?_, h.glo⟩
  · exact ((h.bl.setCell (p := ⟨g, 0, none⟩) h.glo _).setCell (p := ⟨g, 1, none⟩) h.glo _).setCell (p := ⟨g, 2, none⟩) h.glo _
  · have := h.sz; simp [World.setCell]; omega

theorem ZS.grow {im : Bool} {Tb : TypeId} {w0 : World} {lo g gn cap n : Nat} {s : BS} {w w1 : World} {τ : Nat → Nat} {vo x' : Value} {va vt : Nat → Value} {us : Nat → List Value} (h : ZS im Tb w0 lo g s w τ (.slice (some ⟨gn, 0, none⟩) s.nd.length cap) vo va vt us) (hs : GS s) (hn : n < s.nd.length) (b : Int)
    (ho : w1.ownsRow lo 5 1 x' ((ndK s.nd n).tx.length + 1) (bcs ((ndK s.nd n).tx ++ [b]))) (hg : w.grownBy w1 (vt n).ownBlock) (hx : x'.ownBlock = (vt n).ownBlock ∨ x'.ownBlock = some w.heap.size) :
    ZB im Tb w0 lo g ⟨setTx s.nd n b, s.op, s.lg⟩ (w1.setCell ⟨gn, n * 4 + 3, none⟩ x') := by
  obtain ⟨τ', vt', hns, ht⟩ := h.ns.grow hn b h.sz ho hg hx
  have hgl := h.box.lt
  have gn0 : τ gn = 0 := h.ns.rl gn rfl
  have gnl := h.ns.row.lt gn rfl
  have KG : Kp (fun k => τ k = 1 ∨ τ k = 2) w (w1.setCell ⟨gn, n * 4 + 3, none⟩ x') := (Kp.of_grown hg (fun k e e2 => by have := h.ns.tl n hn k e2.symm; omega)).setCell (q := ⟨gn, n * 4 + 3, none⟩) (by show ¬ (τ gn = 1 ∨ τ gn = 2); omega) _
  have hlen : (setTx s.nd n b).length = s.nd.length := setTx_len _ _ _
  refine ⟨τ', .slice (some ⟨gn, 0, none⟩) s.nd.length cap, vo, va, vt', us, h.box.of_block (KG.block g hgl (.inr h.gl)), ?_, ?_, (ht g hgl).trans h.gl, ?_, ?_, h.glo⟩
  · exact hns
  · have o2 : OpP im τ' lo (w1.setCell ⟨gn, n * 4 + 3, none⟩ x') s.nd s.op vo := h.op.move (fun k hk e => KG.block k hk (.inl e)) ht
    refine o2.nodes (fun j hj => ?_)
    dsimp only
    unfold setTx
    rw [ndK_set hn]
    by_cases e : (wv s.op j).toNat = n
    · rw [if_pos e, e]
    · rw [if_neg e]
  · exact ((h.bl.grown hg h.sz (own_lo (h.ns.txt n hn))).setCell (p := ⟨gn, n * 4 + 3, none⟩) gnl.1 _)
  · have := h.sz; have := hg.size; simp [World.setCell]; omega

theorem ZS.pushS {Tb : TypeId} {w0 : World} {lo g : Nat} {s : BS} {wa w w1 : World} {τ : Nat → Nat} {vn vo v' : Value} {va vt : Nat → Value} {us : Nat → List Value} (h : ZS false Tb w0 lo g s w τ vn vo va vt us) (x : Int)
    (ho : w1.ownsRow lo 2 1 v' (s.op.length + 1) (ics s.op ++ ics [x])) (hg : w.grownBy w1 vo.ownBlock) (hv : v'.ownBlock = vo.ownBlock ∨ v'.ownBlock = some w.heap.size) :
    ZB false Tb w0 lo g ⟨s.nd, s.op ++ [x], s.lg⟩ (w1.setCell ⟨g, 1, none⟩ v') := by
  have hgl := h.box.lt
  have KG : Kp (fun k => ¬ τ k = 1) w w1 := Kp.of_grown hg (fun k e e2 => e (h.op.2 k e2.symm))
  have g2 := h.gl
  have vne : ∀ k, v'.ownBlock = some k → ¬ k = g := fun k e eg => by
    subst eg
    rcases hv with hv | hv
    · rw [hv] at e; have := h.op.2 _ e; omega
    · rw [hv] at e; cases e; omega
  have ht : ∀ k, k < w.heap.size → (fun k => if k < w.heap.size then τ k else 1) k = τ k := fun k hk => if_pos hk
  have n1 : NS (fun k => if k < w.heap.size then τ k else 1) lo w vn s.nd va vt us := h.ns.relabel (fun k _ hk => ht k hk)
  refine ⟨fun k => if k < w.heap.size then τ k else 1, vn, v', va, vt, us, ?_, ?_, ⟨?_, fun k e => ?_⟩, ?_, ?_, ?_, h.glo⟩
  · exact r3_set1 (h.box.of_block (KG.block g hgl (by omega)))
  · refine n1.keep ((Kp.mono (p := fun k => ¬ τ k = 1 ∧ k < w.heap.size) (q := fun k => (if k < w.heap.size then τ k else 1) = 0 ∨ 3 ≤ (if k < w.heap.size then τ k else 1)) (KG.mono (fun k e => e.1)) (fun k e => ?_)).setCell (q := ⟨g, 1, none⟩) ?_ _)
    · by_cases hk : k < w.heap.size
      · rw [if_pos hk] at e; exact ⟨by omega, hk⟩
      · rw [if_neg hk] at e; omega
    · show ¬ ((if g < w.heap.size then τ g else 1) = 0 ∨ 3 ≤ (if g < w.heap.size then τ g else 1))
      rw [if_pos hgl]; omega
  · have e1 : (s.op ++ [x]).length = s.op.length + 1 := by simp
    have e2 : ics (s.op ++ [x]) = ics s.op ++ ics [x] := by simp [ics]
    dsimp only
    rw [e1, e2]
    exact own_of ho (Nat.le_refl _) (fun k e _ => Below.heap_setCell _ _ _ _ (fun e' => vne k e e'))
  · show (if k < w.heap.size then τ k else 1) = 1
    rcases hv with hv | hv
    · rw [hv] at e; rw [if_pos (h.op.1.lt k e).2]; exact h.op.2 k e
    · rw [hv] at e; cases e; rw [if_neg (by omega)]
  · show (if g < w.heap.size then τ g else 1) = 2
    rw [if_pos hgl]; exact g2
  · exact (h.bl.grown hg h.sz (own_lo h.op.1)).setCell (p := ⟨g, 1, none⟩) h.glo _
  · have := h.sz; have := hg.size; simp [World.setCell]; omega

theorem ZS.takeS {Tb : TypeId} {w0 : World} {lo g : Nat} {s : BS} {w w1 : World} {τ : Nat → Nat} {vn vo v' : Value} {va vt : Nat → Value} {us : Nat → List Value} (h : ZS false Tb w0 lo g s w τ vn vo va vt us) (op' : List Int)
    (ho : w1.ownsRow w.heap.size 2 1 v' op'.length (ics op')) (hb : Below w.heap.size w w1) :
    ZB false Tb w0 lo g ⟨s.nd, op', s.lg⟩ (w1.setCell ⟨g, 1, none⟩ v') := by
  have hgl := h.box.lt
  have g2 := h.gl
  have vne : ∀ k, v'.ownBlock = some k → ¬ k = g := fun k e eg => by have := (ho.lt k e).1; omega
  have ht : ∀ k, k < w.heap.size → (fun k => if k < w.heap.size then τ k else 1) k = τ k := fun k hk => if_pos hk
  have n1 : NS (fun k => if k < w.heap.size then τ k else 1) lo w1 vn s.nd va vt us := (h.ns.relabel (fun k _ hk => ht k hk)).below hb
  refine ⟨fun k => if k < w.heap.size then τ k else 1, vn, v', va, vt, us, ?_, ?_, ⟨?_, fun k e => ?_⟩, ?_, ?_, ?_, h.glo⟩
  · exact r3_set1 (rowB h.box hb)
  · refine n1.keep ((Kp.refl _ _).setCell (q := ⟨g, 1, none⟩) ?_ _)
    show ¬ ((if g < w.heap.size then τ g else 1) = 0 ∨ 3 ≤ (if g < w.heap.size then τ g else 1))
    rw [if_pos hgl]; omega
  · exact own_of ho h.sz (fun k e _ => Below.heap_setCell _ _ _ _ (fun e' => vne k e e'))
  · show (if k < w.heap.size then τ k else 1) = 1
    rw [if_neg (by have := (ho.lt k e).1; omega)]
  · show (if g < w.heap.size then τ g else 1) = 2
    rw [if_pos hgl]; exact g2
  · exact (h.bl.trans (hb.mono h.sz)).setCell (p := ⟨g, 1, none⟩) h.glo _
  · have := h.sz; have := hb.size; simp [World.setCell]; omega

end Go.Proofs.Ytlaeomnacgjcgaa
