/- The program's side of a tree's fault: the mark of a node. -/
import Derived.Test.YtcjnfodkppcpoaaDoorXV3
namespace Go.Proofs.YtcjnfodkppcpoaaDoor
open Go.RowKit
set_option linter.unusedVariables false
set_option linter.unusedSimpArgs false

/-- A mark: its kind, its tag, its attributes. -/
def mkK (t : ND) : Int := if kindB t = true then (if (t.tg.toList == []) = true then 2 else 1) else 0
def mkS (t : ND) : ByteArray := if mkK t = 1 then t.tg else ⟨#[]⟩
def mkV (t : ND) (v : Value) : Value := if mkK t = 1 then v else .slice none 0 0

theorem mkK_cases (t : ND) : (kindB t = false ∧ mkK t = 0) ∨ (kindB t = true ∧ (t.tg.toList == []) = true ∧ mkK t = 2) ∨ (kindB t = true ∧ (t.tg.toList == []) = false ∧ mkK t = 1) := by
  unfold mkK
  cases h1 : kindB t
  · simp
  · cases h2 : (t.tg.toList == []) <;> simp

set_option maxHeartbeats 3200000 in
theorem markOf_any (t : ND) (a p : Option Addr) (c d : Nat) (w : World) :
    Calls Tryd.prog 46 #[.agg #[.int .i64 t.up, .string t.tg, .slice a t.at_.length c, .slice p t.tx.length d]] w fun e w' => e = .returned (.agg #[.int .i64 (mkK t), .string (mkS t), mkV t (.slice a t.at_.length c)]) ∧ Below w.heap.size w w' := by
  obtain ⟨n, hn⟩ : ∃ n, t.at_.length = n := ⟨_, rfl⟩
  obtain ⟨m, hm⟩ : ∃ m, t.tx.length = m := ⟨_, rfl⟩
  have E : kindB t = if (t.tg.toList == []) = true then decide (n = 0) && decide (1 ≤ (m : Int)) && decide ((m : Int) ≤ 240) else decide (m = 0) := by
    unfold kindB
    rw [hm, hn]
  have EE := Hid.mk' E
  rw [hn, hm]
  clear E hn hm
  have z : ∀ k, mkK t = k → ¬ k = 1 → Value.agg #[.int .i64 (mkK t), .string (mkS t), mkV t (.slice a n c)] = .agg #[.int .i64 k, .string ⟨#[]⟩, .slice none 0 0] := fun k h h1 => by unfold mkS mkV; rw [h, if_neg h1, if_neg h1]
  cases e1 : (t.tg.toList == [])
  · by_cases e2 : (m : Int) = 0
    · have E : Hid (Value.agg #[.int .i64 (mkK t), .string (mkS t), mkV t (.slice a n c)] = .agg #[.int .i64 1, .string t.tg, .slice a n c]) := Hid.mk' (by
        have h : mkK t = 1 := by unfold mkK; rw [EE.out, e1, decide_eq_true (show m = 0 by omega)]; rfl
        unfold mkS mkV; rw [h, if_pos rfl, if_pos rfl])
      go_enter Tryd.func46, Tryd.ntmps46
      go_wp2_with go_big_skip
      refine bodyPost_ret (v := .agg #[.int .i64 1, .string t.tg, .slice a n c]) (by simp [results, Tryd.results46, go_sem, *]) rfl ?_
      exact ⟨by rw [E.out], ((below_new _ _).alloc (by simp) _)⟩
    · have E := Hid.mk' (z 0 (by unfold mkK; rw [EE.out, e1, decide_eq_false (show ¬ m = 0 by omega)]; rfl) (by omega))
      clear z
      go_enter Tryd.func46, Tryd.ntmps46
      go_wp2_with go_big_skip
      refine bodyPost_ret (v := .agg #[.int .i64 0, .string ⟨#[]⟩, .slice none 0 0]) (by simp [results, Tryd.results46, go_sem, *]) rfl ?_
      exact ⟨by rw [E.out], ((below_new _ _).alloc (by simp) _)⟩
  · by_cases e2 : (n : Int) = 0
    · by_cases e3 : (m : Int) ≥ 1
      · by_cases e4 : (m : Int) ≤ 240
        · have E := Hid.mk' (z 2 (by unfold mkK; rw [EE.out, e1, decide_eq_true (show n = 0 by omega), decide_eq_true (show 1 ≤ (m : Int) by omega), decide_eq_true e4]; rfl) (by omega))
          clear z
          go_enter Tryd.func46, Tryd.ntmps46
          go_wp2_with go_big_skip
          refine bodyPost_ret (v := .agg #[.int .i64 2, .string ⟨#[]⟩, .slice none 0 0]) (by simp [results, Tryd.results46, go_sem, *]) rfl ?_
          exact ⟨by rw [E.out], ((below_new _ _).alloc (by simp) _)⟩
        · skip
          have E := Hid.mk' (z 0 (by unfold mkK; rw [EE.out, e1, decide_eq_false e4]; simp) (by omega))
          clear z
          go_enter Tryd.func46, Tryd.ntmps46
          go_wp2_with go_big_skip
          refine bodyPost_ret (v := .agg #[.int .i64 0, .string ⟨#[]⟩, .slice none 0 0]) (by simp [results, Tryd.results46, go_sem, *]) rfl ?_
          exact ⟨by rw [E.out], ((below_new _ _).alloc (by simp) _)⟩
      · skip
        have E := Hid.mk' (z 0 (by unfold mkK; rw [EE.out, e1, decide_eq_false (show ¬ 1 ≤ (m : Int) by omega)]; simp) (by omega))
        clear z
        go_enter Tryd.func46, Tryd.ntmps46
        go_wp2_with go_big_skip
        refine bodyPost_ret (v := .agg #[.int .i64 0, .string ⟨#[]⟩, .slice none 0 0]) (by simp [results, Tryd.results46, go_sem, *]) rfl ?_
        exact ⟨by rw [E.out], ((below_new _ _).alloc (by simp) _)⟩
    · skip
      have E := Hid.mk' (z 0 (by unfold mkK; rw [EE.out, e1, decide_eq_false (show ¬ n = 0 by omega)]; simp) (by omega))
      clear z
      go_enter Tryd.func46, Tryd.ntmps46
      go_wp2_with go_big_skip
      refine bodyPost_ret (v := .agg #[.int .i64 0, .string ⟨#[]⟩, .slice none 0 0]) (by simp [results, Tryd.results46, go_sem, *]) rfl ?_
      exact ⟨by rw [E.out], ((below_new _ _).alloc (by simp) _)⟩

set_option maxHeartbeats 1600000 in
theorem isText_any (k : Int) (s : ByteArray) (v : Value) (w : World) :
    Calls Tryd.prog 50 #[.agg #[.int .i64 k, .string s, v]] w fun e w' => e = .returned (.bool (decide (k = 2))) ∧ Below w.heap.size w w' := by
  go_enter Tryd.func50, Tryd.ntmps50
  go_wp2
  go_ret
  exact ⟨by by_cases h : k = 2 <;> simp [h], below_new _ _⟩

set_option maxHeartbeats 1600000 in
theorem mayHold_any (k : Int) (s : ByteArray) (v : Value) (w : World) :
    Calls Tryd.prog 63 #[.agg #[.int .i64 k, .string s, v]] w fun e w' => e = .returned (.bool (decide (k = 1) && !voidB s)) ∧ Below w.heap.size w w' := by
  have KV : Hid (∀ w', Calls Tryd.prog 77 #[.string s] w' fun e w'' => e = .returned (.bool (voidB s)) ∧ w'' = w') := fun w' => implVoid_any s w'
  by_cases h : k = 1
  · subst h
    go_enter Tryd.func63, Tryd.ntmps63
    go_wp2_with (first | go_big_skip | (go_at_call 77; refine (KV.out _).mono ?_; rintro e w9 ⟨rfl, hw9⟩; obtain rfl := hw9.symm))
    go_ret
    exact ⟨by simp, below_new _ _⟩
  · go_enter Tryd.func63, Tryd.ntmps63
    go_wp2_with (first | go_big_skip | (go_at_call 77; refine (KV.out _).mono ?_; rintro e w9 ⟨rfl, hw9⟩; obtain rfl := hw9.symm))
    go_ret
    exact ⟨by simp [h], below_new _ _⟩

theorem tf_start (s : ByteArray) (l : List AT) : tfault ⟨2, 0, s, l, false⟩ = if nmB s = true then afault l else 5 := by
  unfold tfault tform
  cases h : nmB s <;> simp [h]

set_option maxHeartbeats 3200000 in
theorem fault_any (t : ND) (a : Option Addr) (c : Nat) (w : World) (ha : AAt w a t.at_) (hl : (nsz t : Int) ≤ 1048576) :
    Calls Tryd.prog 62 #[.agg #[.int .i64 (mkK t), .string (mkS t), mkV t (.slice a t.at_.length c)]] w fun e w' => e = .returned (.int .i64 (markF t)) ∧ Below w.heap.size w w' := by
  rcases mkK_cases t with ⟨h1, h2⟩ | ⟨h1, h2, h3⟩ | ⟨h1, h2, h3⟩
  · have E : Hid (markF t = 1) := Hid.mk' (by unfold markF; rw [h1]; rfl)
    unfold mkS mkV
    rw [h2, if_neg (by omega), if_neg (by omega)]
    go_enter Tryd.func62, Tryd.ntmps62
    go_wp2
    go_ret
    exact ⟨by rw [E.out]; rfl, below_new _ _⟩
  · have E : Hid (markF t = 0) := Hid.mk' (by unfold markF; rw [h1, h2]; rfl)
    unfold mkS mkV
    rw [h3, if_neg (by omega), if_neg (by omega)]
    go_enter Tryd.func62, Tryd.ntmps62
    go_wp2
    go_ret
    exact ⟨by rw [E.out]; rfl, below_new _ _⟩
  · have E : Hid (markF t = tfault ⟨2, 0, t.tg, t.at_, false⟩) := Hid.mk' (by rw [tf_start]; unfold markF; rw [h1, h2]; rfl)
    have KT : Hid (∀ w', Below w.heap.size w w' → Calls Tryd.prog 76 #[.agg #[.int .i64 2, .int .i64 0, .string t.tg, .slice a t.at_.length c, .bool false]] w' fun e w'' => e = .returned (.int .i64 (tfault ⟨2, 0, t.tg, t.at_, false⟩)) ∧ Below w'.heap.size w' w'') := fun w' hb => implTF_any ⟨2, 0, t.tg, t.at_, false⟩ a c w' (ha.below hb) (by unfold nsz at hl; show (t.tg.size : Int) ≤ _; omega) (by unfold nsz at hl; show (t.at_.length : Int) + asz t.at_ ≤ _; omega)
    unfold mkS mkV
    rw [h3, if_pos rfl, if_pos rfl]
    generalize tfault ⟨2, 0, t.tg, t.at_, false⟩ = f at *
    have HB := Hid.mk' ((below_new w (.cells #[.int .i64 1, .string t.tg, .slice a t.at_.length c] 76)))
    clear ha h1 h2 h3
    go_enter Tryd.func62, Tryd.ntmps62
    go_wp2_with fail
    refine (KT.out _ (by first | exact HB.out | exact HB.out.alloc (by simp) _)).mono ?_
    rintro e w1 ⟨rfl, hb⟩
    have HC := Hid.mk' hb
    clear hb KT
    go_wp2
    go_ret
    exact ⟨by rw [E.out]; rfl, by first | exact HB.out.trans (HC.out.mono HB.out.size) | exact (HB.out.alloc (by simp) _).trans (HC.out.mono (HB.out.alloc (by simp) _).size)⟩

end Go.Proofs.YtcjnfodkppcpoaaDoor
