/- Both sides' TextIn. -/
import Derived.Test.YtphilngnkigcfabGf
import Derived.Test.YtphilngnkigcfabGt
namespace Go.Proofs.Ytphilngnkigcfab
open Go.RowKit
set_option linter.unusedVariables false
set_option linter.unusedSimpArgs false

/-- The texts of the first k, one behind the other. -/
def textU (l : List ND) : Nat → List Int
  | 0 => []
  | k + 1 => textU l k ++ (ndK l k).tx

theorem textU_len (l : List ND) : ∀ k, k ≤ l.length → (textU l k).length ≤ nssz (l.take k)
  | 0, _ => by simp [textU]
  | k + 1, hk => by
    have := textU_len l k (by omega)
    have st := nssz_take l k (by omega)
    unfold nsz at st
    simp only [textU, List.length_append]
    omega

theorem textU_le (l : List ND) (k : Nat) (hk : k ≤ l.length) : (textU l k).length ≤ nssz l := Nat.le_trans (textU_len l k hk) (nssz_le l k)

/-- What TextIn tells: the code, and the bytes. -/
def txC (l : List ND) : Int := if treeF l = 0 then (if 2000 < (textU l l.length).length then 6 else 0) else treeF l
def txL (l : List ND) : List Int := if txC l = 0 then textU l l.length else []

theorem tx_cases (l : List ND) : (¬ treeF l = 0 ∧ txC l = treeF l ∧ txL l = []) ∨ (treeF l = 0 ∧ 2000 < (textU l l.length).length ∧ txC l = 6 ∧ txL l = []) ∨ (treeF l = 0 ∧ ¬ 2000 < (textU l l.length).length ∧ txC l = 0 ∧ txL l = textU l l.length) := by
  by_cases h : treeF l = 0
  · by_cases h2 : 2000 < (textU l l.length).length
    · have e : txC l = 6 := by unfold txC; rw [if_pos h, if_pos h2]
      exact .inr (.inl ⟨h, h2, e, by unfold txL; rw [e]; rfl⟩)
    · have e : txC l = 0 := by unfold txC; rw [if_pos h, if_neg h2]
      exact .inr (.inr ⟨h, h2, e, by unfold txL; rw [if_pos e]⟩)
  · have e : txC l = treeF l := by unfold txC; rw [if_neg h]
    exact .inl ⟨h, e, by unfold txL; rw [e, if_neg h]⟩

theorem txL_small (l : List ND) : (txL l).length ≤ 2000 := by
  rcases tx_cases l with ⟨_, _, h⟩ | ⟨_, _, _, h⟩ | ⟨_, h2, _, h⟩
  · rw [h]; simp
  · rw [h]; simp
  · rw [h]; omega

/-- What TextIn leaves. -/
def TxP (l : List ND) (w : World) (e : Ending) (w' : World) : Prop := ∃ v, e = .returned (.agg #[.int .i64 (txC l), v]) ∧ OB w' v (txL l) ∧ (∀ k, v.ownBlock = some k → w.heap.size ≤ k) ∧ Below w.heap.size w w'

theorem tx_nil {l : List ND} {c : Int} {w w' : World} (h1 : txC l = c) (h2 : txL l = []) (hb : Below w.heap.size w w') : TxP l w (.returned (.agg #[.int .i64 c, .slice none 0 0])) w' :=
  ⟨_, by rw [h1], by rw [h2]; exact .inl ⟨rfl, rfl⟩, fun k e => by simp [Value.ownBlock] at e, hb⟩

theorem ob_set {w : World} {v u : Value} {l : List Int} {g j : Nat} (h : OB w v l) (hg : ¬ v.ownBlock = some g) : OB (w.setCell ⟨g, j, none⟩ u) v l :=
  h.keep fun k e hl => Below.heap_setCell _ _ _ _ (fun e' => hg (by rw [e, e']))

theorem tx_own {l : List ND} {w w1 : World} {v u0 u1 : Value} (h1 : txC l = 0) (h2 : txL l = textU l l.length) (ho : OB w1 v (textU l l.length)) (hlo : ∀ k, v.ownBlock = some k → w.heap.size < k) (hb : Below w.heap.size w w1) :
    TxP l w (.returned (.agg #[.int .i64 0, v])) ((w1.setCell ⟨w.heap.size, 0, none⟩ u0).setCell ⟨w.heap.size, 1, none⟩ u1) := by
  have hne : ¬ v.ownBlock = some w.heap.size := fun e => by have := hlo _ e; omega
  exact ⟨v, by rw [h1], by rw [h2]; exact ob_set (ob_set ho hne) hne, fun k e => by have := hlo k e; omega, (hb.setCell (p := ⟨w.heap.size, 0, none⟩) (Nat.le_refl _) _).setCell (p := ⟨w.heap.size, 1, none⟩) (Nat.le_refl _) _⟩

set_option maxRecDepth 100000 in
set_option maxHeartbeats 3200000 in
theorem specText_n (a : Option Addr) (c : Nat) (l : List ND) (w : World) (ha : NsAt w a l) (hl : (l.length : Int) + nssz l ≤ 1048576) :
    Calls Try.prog 5 #[.slice a l.length c] w fun e w' => TxP l w e w' := by
  have N0 := below_new w (.cells #[.int .i64 0, .slice none 0 0] 26)
  have KF := l6Fault_any a c l _ (ha.below N0) hl
  have RB := Hid.mk' (rowp2 w 26 (.int .i64 0) (.slice none 0 0))
  have HN := Hid.mk' N0
  have HA := Hid.mk' (ha.below N0)
  have HS : Hid ((w.alloc (.cells #[.int .i64 0, .slice none 0 0] 26)).heap.size = w.heap.size + 1) := Hid.mk' (by simp)
  clear ha N0
  generalize hW : w.alloc (.cells #[.int .i64 0, .slice none 0 0] 26) = W at *
  by_cases h0 : treeF l = 0
  rotate_left
  · rcases tx_cases l with ⟨h1, h2, h3⟩ | ⟨h1, _⟩ | ⟨h1, _⟩
    rotate_left
    · exact absurd h1 h0
    · exact absurd h1 h0
    have KF := Hid.mk' KF
    have E2 := Hid.mk' h2
    have E3 := Hid.mk' h3
    clear h2 h3
    go_enter Try.func5, Try.ntmps5
    go_wp2_with fail
    clear hW
    refine KF.out.mono ?_
    rintro e w1 ⟨rfl, hb⟩
    have R1 := rowB RB.out hb
    have HB := Hid.mk' (HN.out.trans (hb.mono HN.out.size))
    obtain ⟨b0, b1, b2⟩ := cells2 R1
    have f0 := R1.frozen 0
    have f1 := R1.frozen 1
    clear hb KF R1
    go_wp2
    refine bodyPost_ret (v := .agg #[.int .i64 (treeF l), .slice none 0 0]) (by simp [results, Try.results5, go_sem, *]) rfl ?_
    exact tx_nil E2.out E3.out ((HB.out.setCell (p := ⟨w.heap.size, 0, none⟩) (Nat.le_refl _) _).setCell (p := ⟨w.heap.size, 1, none⟩) (Nat.le_refl _) _)
  rw [h0] at KF
  have KF := Hid.mk' KF
  have H0 := Hid.mk' h0
  clear h0
  go_enter Try.func5, Try.ntmps5
  go_wp2_with fail
  clear hW
  refine KF.out.mono ?_
  rintro e w1 ⟨rfl, hb⟩
  have HR := Hid.mk' (rowB RB.out hb)
  have HB := Hid.mk' (HN.out.trans (hb.mono HN.out.size))
  have HC := Hid.mk' hb
  clear hb KF
  have O0 := Hid.mk' (World.ownsRow_lit (base := w1.heap.size) (e := 5) (size := 1) w1 #[] 0 (Nat.le_refl _) (by unfold maxLen; omega) rfl)
  have B0 := Hid.mk' (below_new w1 (.cells #[] 5))
  have SL : Hid (w.heap.size < w1.heap.size) := Hid.mk' (by have := HC.out.size; have := HS.out; omega)
  go_wp2_with fail
  go_loopw [4, 5] (fun v i wr => ∃ k : Nat, k ≤ l.length ∧ i = .int .i64 k ∧ wr.ownsRow w1.heap.size 5 1 v (textU l k).length (bcs (textU l k)) ∧ Below w1.heap.size w1 wr) (fun _ i _ => l.length - (intOf i).toNat)
  case atStart => exact ⟨0, Nat.zero_le _, rfl, O0.out, B0.out⟩
  case round =>
    obtain ⟨k, hk, rfl, hown, hbl⟩ := hrel
    have HO := Hid.mk' hown
    have HBL := Hid.mk' hbl
    by_cases hlt : k < l.length
    · have ci : (k : Int) < (l.length : Int) := by omega
      rcases (HA.out.below HC.out).below hbl with ha | ⟨b, o, rfl, hbs, hc⟩
      · exact absurd hlt (by rw [ha]; exact Nat.not_lt_zero _)
      obtain ⟨_, _, _, ⟨p, d, q1, q2⟩⟩ := hc k hlt
      have t1 := textU_le l (k + 1) (by omega)
      have tl : (textU l (k + 1)).length = (textU l k).length + (ndK l k).tx.length := by simp [textU]
      have SR := Hid.mk' q2.src
      have SZ := Hid.mk' hbl.size
      clear hc hown hbl q2
      have tl' := Hid.mk' tl
      have b1 : (textU l k).length + (ndK l k).tx.length ≤ 1048576 := by omega
      clear tl
      go_wp2_with (at_builtin; refine wpList_append_at _ rfl (.tmp 19) (.tmp 24) 24 rfl w1.heap.size 5 (.int .u8 0) 1 1 Try.underlying24 Try.info5 rfl (by decide) _ _ _ rfl HO.out _ (ndK l k).tx.length _ (bcs (ndK l k).tx) rfl (bcs_len _) SR.out (bcs_one _) (by unfold maxLen; omega) (by omega) SZ.out ?_; intro v' w3 ho hgr hat)
      have O2 : Hid (w3.ownsRow w1.heap.size 5 1 v' (textU l (k + 1)).length (bcs (textU l (k + 1)))) := Hid.mk' (by
        rw [tl'.out]
        show World.ownsRow _ _ _ _ _ _ (bcs (textU l k ++ (ndK l k).tx))
        rw [bcs_append]; exact ho)
      have B2 := Hid.mk' (HBL.out.grown hgr SZ.out (own_lo HO.out))
      clear ho hgr hat
      go_roundw
      case rel => exact ⟨k + 1, by omega, by go_num, O2.out, B2.out⟩
      case measure => simp [intOf]; omega
    · have ci : ¬ (k : Int) < (l.length : Int) := by omega
      have e : k = l.length := by omega
      subst e
      obtain ⟨av, cv, ev, _⟩ := own_len hown
      subst ev
      clear hown hbl
      have R3 := rowB HR.out HBL.out
      obtain ⟨b0, b1, b2⟩ := cells2 R3
      have f0 := R3.frozen 0
      have f1 := R3.frozen 1
      have HB := Hid.mk' (HB.out.trans (HBL.out.mono HB.out.size))
      clear R3
      rcases tx_cases l with ⟨h1, _⟩ | ⟨h1, h2, h3, h4⟩ | ⟨h1, h2, h3, h4⟩
      · exact absurd H0.out h1
      · have E2 := Hid.mk' h3
        have E3 := Hid.mk' h4
        have h2' : ((textU l l.length).length : Int) > 2000 := by omega
        clear h1 h2 h3 h4
        go_wp2
        refine bodyPost_ret (v := .agg #[.int .i64 6, .slice none 0 0]) (by simp [results, Try.results5, go_sem, *]) rfl ?_
        exact tx_nil E2.out E3.out ((HB.out.setCell (p := ⟨w.heap.size, 0, none⟩) (Nat.le_refl _) _).setCell (p := ⟨w.heap.size, 1, none⟩) (Nat.le_refl _) _)
      · have E2 := Hid.mk' h3
        have E3 := Hid.mk' h4
        have h2' : ¬ ((textU l l.length).length : Int) > 2000 := by omega
        clear h1 h2 h3 h4
        go_wp2
        refine bodyPost_ret (v := .agg #[.int .i64 0, .slice av (textU l l.length).length cv]) (by simp [results, Try.results5, go_sem, *]) rfl ?_
        exact tx_own E2.out E3.out (OB.of_own HO.out).1 (fun k e => by have := (OB.of_own HO.out).2 k e; have := SL.out; omega) HB.out

set_option maxRecDepth 100000 in
set_option maxHeartbeats 3200000 in
theorem implText_n (a : Option Addr) (c : Nat) (l : List ND) (w : World) (ha : NsAt w a l) (hl : (l.length : Int) + nssz l ≤ 1048576) :
    Calls Try.prog 7 #[.slice a l.length c] w fun e w' => TxP l w e w' := by
  have N0 := below_new w (.cells #[.int .i64 0, .slice none 0 0] 26)
  have KF := implTree_any a c l _ (ha.below N0) hl
  have RB := Hid.mk' (rowp2 w 26 (.int .i64 0) (.slice none 0 0))
  have HN := Hid.mk' N0
  have HA := Hid.mk' (ha.below N0)
  have HS : Hid ((w.alloc (.cells #[.int .i64 0, .slice none 0 0] 26)).heap.size = w.heap.size + 1) := Hid.mk' (by simp)
  clear ha N0
  generalize hW : w.alloc (.cells #[.int .i64 0, .slice none 0 0] 26) = W at *
  by_cases h0 : treeF l = 0
  rotate_left
  · rcases tx_cases l with ⟨h1, h2, h3⟩ | ⟨h1, _⟩ | ⟨h1, _⟩
    rotate_left
    · exact absurd h1 h0
    · exact absurd h1 h0
    have KF := Hid.mk' KF
    have E2 := Hid.mk' h2
    have E3 := Hid.mk' h3
    clear h2 h3
    go_enter Try.func7, Try.ntmps7
    go_wp2_with fail
    clear hW
    refine KF.out.mono ?_
    rintro e w1 ⟨rfl, hb⟩
    have R1 := rowB RB.out hb
    have HB := Hid.mk' (HN.out.trans (hb.mono HN.out.size))
    obtain ⟨b0, b1, b2⟩ := cells2 R1
    have f0 := R1.frozen 0
    have f1 := R1.frozen 1
    clear hb KF R1
    go_wp2
    refine bodyPost_ret (v := .agg #[.int .i64 (treeF l), .slice none 0 0]) (by simp [results, Try.results7, go_sem, *]) rfl ?_
    exact tx_nil E2.out E3.out ((HB.out.setCell (p := ⟨w.heap.size, 0, none⟩) (Nat.le_refl _) _).setCell (p := ⟨w.heap.size, 1, none⟩) (Nat.le_refl _) _)
  rw [h0] at KF
  have KF := Hid.mk' KF
  have H0 := Hid.mk' h0
  clear h0
  go_enter Try.func7, Try.ntmps7
  go_wp2_with fail
  clear hW
  refine KF.out.mono ?_
  rintro e w1 ⟨rfl, hb⟩
  have HR := Hid.mk' (rowB RB.out hb)
  have HB := Hid.mk' (HN.out.trans (hb.mono HN.out.size))
  have HC := Hid.mk' hb
  clear hb KF
  have SL : Hid (w.heap.size < w1.heap.size) := Hid.mk' (by have := HC.out.size; have := HS.out; omega)
  go_wp2_with fail
  go_loopw [4, 15] (fun v i wr => ∃ k : Nat, k ≤ l.length ∧ i = .int .i64 k ∧ OB wr v (textU l k) ∧ (∀ q, v.ownBlock = some q → w.heap.size < q) ∧ Below w1.heap.size w1 wr) (fun _ i _ => l.length - (intOf i).toNat)
  case atStart => exact ⟨0, Nat.zero_le _, rfl, .inl ⟨rfl, rfl⟩, fun q e => by simp [Value.ownBlock] at e, Below.refl _ _⟩
  case round =>
    obtain ⟨k, hk, rfl, hob, hlo, hbl⟩ := hrel
    have HO := Hid.mk' hob
    have HL := Hid.mk' hlo
    have HBL := Hid.mk' hbl
    by_cases hlt : k < l.length
    · have ci : (k : Int) < (l.length : Int) := by omega
      rcases (HA.out.below HC.out).below hbl with ha | ⟨b, o, rfl, hbs, hc⟩
      · exact absurd hlt (by rw [ha]; exact Nat.not_lt_zero _)
      obtain ⟨q0, q1, ⟨p2', d2, q2, _, _⟩, ⟨p, d, q3, q4⟩⟩ := hc k hlt
      have t1 := textU_le l (k + 1) (by omega)
      have tl : (textU l (k + 1)).length = (textU l k).length + (ndK l k).tx.length := by simp [textU]
      obtain ⟨av, cv, ev, hBA⟩ := hob.len
      subst ev
      have V1 := below_new wr (.cells #[.int .i64 (ndK l k).up, .string (ndK l k).tg, .slice p2' (ndK l k).at_.length d2, .slice p (ndK l k).tx.length d] 42)
      have RN := Hid.mk' (row4 wr 42 (.int .i64 (ndK l k).up) (.string (ndK l k).tg) (.slice p2' (ndK l k).at_.length d2) (.slice p (ndK l k).tx.length d))
      have BA := hBA.below V1
      have BT := q4.below V1
      have SZ2 : Hid (w1.heap.size ≤ wr.heap.size) := Hid.mk' hbl.size
      have HBL := Hid.mk' (HBL.out.trans (V1.mono HBL.out.size))
      have SV := Hid.mk' V1.size
      clear V1
      generalize hWn : wr.alloc (.cells #[.int .i64 (ndK l k).up, .string (ndK l k).tg, .slice p2' (ndK l k).at_.length d2, .slice p (ndK l k).tx.length d] 42) = Wn at *
      have KJ : Hid (Calls Try.prog 17 #[.slice av (textU l k).length cv, .slice p (ndK l k).tx.length d] Wn fun e w' => ∃ g, e = .returned (.slice (some ⟨g, 0, none⟩) (textU l (k + 1)).length (textU l (k + 1)).length) ∧ w1.heap.size ≤ g ∧ w'.rowIs g 5 (textU l (k + 1)).length (bv (textU l (k + 1))) ∧ Below Wn.heap.size Wn w') := by
        rcases Nat.eq_zero_or_pos (ndK l k).tx.length with h0 | h0
        · have e : textU l (k + 1) = textU l k := by
            show textU l k ++ (ndK l k).tx = _
            rw [List.eq_nil_of_length_eq_zero h0, List.append_nil]
          have := joinBytes_nil av p cv d (textU l k) _ BA (by omega)
          rw [e, h0]
          exact this.mono fun e' w' ⟨g, x1, x2, x3, x4⟩ => ⟨g, x1, Nat.le_trans (Nat.le_trans SZ2.out SV.out) x2, x3, x4⟩
        · have := joinBytes_pos av p cv d (textU l k) (ndK l k).tx _ BA BT h0 (by omega)
          rw [tl]
          exact this.mono fun e' w' ⟨g, x1, x2, x3, x4⟩ => ⟨g, x1, Nat.le_trans (Nat.le_trans SZ2.out SV.out) x2, x3, x4⟩
      clear hc hob hlo hbl hBA q4 BA BT tl
      obtain ⟨r0, r1, r2, r3_, r4_⟩ := cells4 RN.out
      go_wp2_with fail
      clear hWn
      refine KJ.out.mono ?_
      rintro e w3 ⟨g, rfl, hg, hrow, hb⟩
      have O2 : Hid (OB w3 (.slice (some ⟨g, 0, none⟩) (textU l (k + 1)).length (textU l (k + 1)).length) (textU l (k + 1))) := Hid.mk' (.inr ⟨g, _, _, _, rfl, Nat.le_refl _, hrow, Nat.le_refl _, fun _ _ => rfl⟩)
      have L2 : Hid (∀ q, (Value.slice (some ⟨g, 0, none⟩) (textU l (k + 1)).length (textU l (k + 1)).length).ownBlock = some q → w.heap.size < q) := Hid.mk' (fun q e => by simp [Value.ownBlock] at e; have := SL.out; omega)
      have B2 := Hid.mk' (HBL.out.trans (hb.mono HBL.out.size))
      clear hrow hb KJ
      go_wp2
      go_roundw
      case rel => exact ⟨k + 1, by omega, by go_num, O2.out, L2.out, B2.out⟩
      case measure => simp [intOf]; omega
    · have ci : ¬ (k : Int) < (l.length : Int) := by omega
      have e : k = l.length := by omega
      subst e
      obtain ⟨av, cv, ev, _⟩ := hob.len
      subst ev
      clear hob hlo hbl
      have R3 := rowB HR.out HBL.out
      obtain ⟨b0, b1, b2⟩ := cells2 R3
      have f0 := R3.frozen 0
      have f1 := R3.frozen 1
      have HB := Hid.mk' (HB.out.trans (HBL.out.mono HB.out.size))
      clear R3
      rcases tx_cases l with ⟨h1, _⟩ | ⟨h1, h2, h3, h4⟩ | ⟨h1, h2, h3, h4⟩
      · exact absurd H0.out h1
      · have E2 := Hid.mk' h3
        have E3 := Hid.mk' h4
        have h2' : ((textU l l.length).length : Int) > 2000 := by omega
        clear h1 h2 h3 h4
        go_wp2
        refine bodyPost_ret (v := .agg #[.int .i64 6, .slice none 0 0]) (by simp [results, Try.results7, go_sem, *]) rfl ?_
        exact tx_nil E2.out E3.out ((HB.out.setCell (p := ⟨w.heap.size, 0, none⟩) (Nat.le_refl _) _).setCell (p := ⟨w.heap.size, 1, none⟩) (Nat.le_refl _) _)
      · have E2 := Hid.mk' h3
        have E3 := Hid.mk' h4
        have h2' : ¬ ((textU l l.length).length : Int) > 2000 := by omega
        clear h1 h2 h3 h4
        go_wp2
        refine bodyPost_ret (v := .agg #[.int .i64 0, .slice av (textU l l.length).length cv]) (by simp [results, Try.results7, go_sem, *]) rfl ?_
        exact tx_own E2.out E3.out HO.out HL.out HB.out

end Go.Proofs.Ytphilngnkigcfab
