/- Lists of numbers: compared, marked, held. -/
import Derived.Test.YtphilngnkigcfaaGq
namespace Go.Proofs.Ytphilngnkigcfaa
open Go.RowKit
set_option linter.unusedVariables false
set_option linter.unusedSimpArgs false

/-- Numbers in a row of one's own (or none, in none). -/
def OI (w : World) (v : Value) (l : List Int) : Prop := (v = .slice none 0 0 ∧ l = []) ∨
  ∃ g cap cn f, v = .slice (some ⟨g, 0, none⟩) l.length cap ∧ w.rowIs g 2 cn f ∧ l.length ≤ cn ∧ ∀ i, i < l.length → f i = .int .i64 (wv l i)

theorem OI.keep {w w' : World} {v : Value} {l : List Int} (h : OI w v l) (hk : ∀ k, v.ownBlock = some k → k < w.heap.size → w'.heap[k]? = w.heap[k]?) : OI w' v l := by
  rcases h with h | ⟨g, cap, cn, f, rfl, hr, hl, hf⟩
  · exact .inl h
  · exact .inr ⟨g, cap, cn, f, rfl, hr.of_block (hk g rfl hr.lt), hl, hf⟩

theorem OI.below {w w' : World} {v : Value} {l : List Int} (h : OI w v l) (hb : Below w.heap.size w w') : OI w' v l := h.keep fun k _ hl => hb.block k hl

theorem OI.lt {w : World} {v : Value} {l : List Int} (h : OI w v l) : ∀ k, v.ownBlock = some k → k < w.heap.size := by
  rcases h with ⟨rfl, _⟩ | ⟨g, cap, cn, f, rfl, hr, _, _⟩
  · intro k e; simp [Value.ownBlock] at e
  · intro k e; simp [Value.ownBlock] at e; subst e; exact hr.lt

theorem OI.len {w : World} {v : Value} {l : List Int} (h : OI w v l) : ∃ a c, v = .slice a l.length c ∧ IAt w a l := by
  rcases h with ⟨rfl, rfl⟩ | ⟨g, cap, cn, f, rfl, hr, hl, hf⟩
  · exact ⟨none, 0, rfl, .inl rfl⟩
  · exact ⟨_, _, rfl, .inr ⟨g, 0, rfl, hr.lt, fun k hk => by rw [Nat.zero_add, hr.cell (by omega), hf k hk]⟩⟩

theorem OI.of_own {w : World} {base : Nat} {v : Value} {l : List Int} (h : w.ownsRow base 2 1 v l.length (ics l)) : OI w v l := by
  obtain ⟨_, h | ⟨g, cap, cur, rfl, hb, hg, hn, hm, hs, ht⟩⟩ := h
  · obtain ⟨rfl, h0⟩ := h
    exact .inl ⟨rfl, List.eq_nil_of_length_eq_zero h0⟩
  · refine .inr ⟨g, cap, cap, fun i => cur.toList.getD i undef, rfl, ⟨cur, hg, by omega, fun i hi => ?_⟩, hn, fun i hi => ?_⟩
    · have : i < cur.size := by omega
      simp [this]
    · have e := ics_get l i hi
      rw [← ht, List.getElem?_take, if_pos (by omega)] at e
      simp only [List.getD_eq_getElem?_getD, e, Option.getD_some]

set_option maxHeartbeats 1600000 in
theorem eqInt64S_any (a b : Option Addr) (c d : Nat) (l : List Int) (w : World) (ha : IAt w a l) (hb : IAt w b l) (hl : (l.length : Int) ≤ 1048576) :
    Calls Try.prog 42 #[.slice a l.length c, .slice b l.length d] w fun e w' => e = .returned (.bool true) ∧ Below w.heap.size w w' := by
  have HA := Hid.mk' ha
  have HB := Hid.mk' hb
  clear ha hb
  go_enter Try.func42, Try.ntmps42
  go_wp2
  go_loopw [5] (fun i wr => ∃ k : Nat, k ≤ l.length ∧ i = .int .i64 k ∧ Below w.heap.size w wr) (fun i _ => l.length - (intOf i).toNat)
  case atStart => exact ⟨0, Nat.zero_le _, rfl, Below.refl _ _⟩
  case round =>
    obtain ⟨k, hk, rfl, hbl⟩ := hrel
    by_cases hlt : k < l.length
    · have ci : (k : Int) < (l.length : Int) := by omega
      rcases HA.out.below hbl with ha | ⟨b1, o1, rfl, s1, hc1⟩
      · exact absurd hlt (by rw [ha]; exact Nat.not_lt_zero _)
      rcases HB.out.below hbl with hb | ⟨b2, o2, rfl, s2, hc2⟩
      · exact absurd hlt (by rw [hb]; exact Nat.not_lt_zero _)
      have h1 := hc1 k hlt
      have h2 := hc2 k hlt
      have R2 := Hid.mk' hbl
      clear hbl hc1 hc2
      go_wp2
      go_quiet (fail)
      go_wp2
      go_roundw
      case rel => exact ⟨k + 1, by omega, by go_num, below_drewN R2.out _⟩
      case measure => simp [intOf]; omega
    · have ci : ¬ (k : Int) < (l.length : Int) := by omega
      go_wp2
      go_ret
      exact ⟨rfl, hbl⟩

/-- The marks that n numbers get. -/
def mi (n : Nat) : List Int := (List.range n).map fun (i : Nat) => (1 : Int) + (i : Int)
theorem mi_len (n : Nat) : (mi n).length = n := by simp [mi]
theorem wv_mi {n i : Nat} (h : i < n) : wv (mi n) i = 1 + (i : Int) := by simp [wv, mi, h]

set_option maxHeartbeats 1600000 in
theorem markInt64S_own (v : Value) (l : List Int) (w : World) (h : OI w v l) (hl : (l.length : Int) ≤ 1048576) :
    Calls Try.prog 46 #[v, .int .i64 1] w fun e w' => e = .returned (.int .i64 (1 + (l.length : Int))) ∧ OI w' v (mi l.length) ∧ Turned v w w' := by
  rcases h with ⟨rfl, rfl⟩ | ⟨g, cap, cn, f, rfl, hr, hle, hf⟩
  · go_enter Try.func46, Try.ntmps46
    go_wp2
    go_loopw [1, 5] (fun x i wr => x = .int .i64 1 ∧ i = .int .i64 0 ∧ wr = w) (fun _ _ _ => 0)
    case atStart => exact ⟨rfl, rfl, rfl⟩
    case round =>
      obtain ⟨rfl, rfl, rfl⟩ := hrel
      go_wp2
      go_ret
      exact ⟨by simp, .inl ⟨rfl, by simp [mi]⟩, Turned.refl _ _⟩
  · have HF := Hid.mk' hf
    clear hf
    go_enter Try.func46, Try.ntmps46
    go_wp2
    go_loopw [1, 5] (fun x i wr => ∃ k : Nat, k ≤ l.length ∧ i = .int .i64 k ∧ x = .int .i64 (1 + (k : Int)) ∧ wr.rowIs g 2 cn (fun j => if j < k then .int .i64 (1 + (j : Int)) else f j) ∧ KeptIn g (g + 1) w wr) (fun _ i _ => l.length - (intOf i).toNat)
    case atStart => exact ⟨0, Nat.zero_le _, rfl, rfl, hr.congr (fun j _ => by simp), KeptIn.refl _ _ _⟩
    case round =>
      obtain ⟨k, hk, rfl, rfl, hrow, hkp⟩ := hrel
      by_cases hlt : k < l.length
      · have ci : (k : Int) < (l.length : Int) := by omega
        have f0 := hrow.frozen k
        obtain ⟨v0, g0⟩ : ∃ v, wr.cell? ⟨g, k, none⟩ = some v := ⟨_, hrow.cell (by omega)⟩
        have R1 := Hid.mk' ((hrow.set k (.int .i64 (1 + (k : Int)))).congr (g := fun j => if j < k + 1 then .int .i64 (1 + (j : Int)) else f j) (fun j _ => by
          by_cases e : j = k
          · subst e; simp
          · by_cases h : j < k
            · simp [e, h, show j < k + 1 by omega]
            · simp [e, h, show ¬ j < k + 1 by omega]))
        have K1 := Hid.mk' (hkp.setCell (p := ⟨g, k, none⟩) (Nat.le_refl _) (Nat.lt_succ_self _) (.int .i64 (1 + (k : Int))))
        clear hrow hkp
        go_wp2
        go_roundw
        case rel => exact ⟨k + 1, by omega, by go_num, by go_num, R1.out, K1.out⟩
        case measure => simp [intOf]; omega
      · have ci : ¬ (k : Int) < (l.length : Int) := by omega
        have e : k = l.length := by omega
        subst e
        have O1 : Hid (OI wr (.slice (some ⟨g, 0, none⟩) l.length cap) (mi l.length)) := Hid.mk' (.inr ⟨g, cap, cn, _, by rw [mi_len], hrow, by rw [mi_len]; exact hle, fun i hi => by rw [mi_len] at hi; rw [wv_mi hi, if_pos hi]⟩)
        have T1 := Hid.mk' (Turned.of_kept (n := l.length) (c := cap) hkp)
        clear hrow hkp
        go_wp2
        go_ret
        exact ⟨rfl, O1.out, T1.out⟩

set_option maxHeartbeats 1600000 in
theorem heldInt64S_own (v : Value) (n : Nat) (w : World) (h : OI w v (mi n)) (hl : (n : Int) ≤ 1048576) :
    Calls Try.prog 47 #[v, .int .i64 1] w fun e w' => e = .returned (.int .i64 (1 + (n : Int))) ∧ Below w.heap.size w w' := by
  obtain ⟨a, c, rfl, hi⟩ := h.len
  rw [mi_len]
  have HI := Hid.mk' hi
  clear h hi
  go_enter Try.func47, Try.ntmps47
  go_wp2
  go_loopw [1, 5] (fun x i wr => ∃ k : Nat, k ≤ n ∧ i = .int .i64 k ∧ x = .int .i64 (1 + (k : Int)) ∧ Below w.heap.size w wr) (fun _ i _ => n - (intOf i).toNat)
  case atStart => exact ⟨0, Nat.zero_le _, rfl, rfl, Below.refl _ _⟩
  case round =>
    obtain ⟨k, hk, rfl, rfl, hbl⟩ := hrel
    have HB := Hid.mk' hbl
    by_cases hlt : k < n
    · have ci : (k : Int) < (n : Int) := by omega
      rcases HI.out.below hbl with ha | ⟨b, o, rfl, hbs, hc⟩
      · have := congrArg List.length ha; rw [mi_len] at this; simp at this; omega
      have h1 := hc k (by rw [mi_len]; exact hlt)
      rw [wv_mi hlt] at h1
      clear hc hbl
      go_wp2
      go_roundw
      case rel => exact ⟨k + 1, by omega, by go_num, by go_num, HB.out⟩
      case measure => simp [intOf]; omega
    · have ci : ¬ (k : Int) < (n : Int) := by omega
      have e : k = n := by omega
      subst e
      clear hbl
      go_wp2
      go_ret
      exact ⟨rfl, HB.out⟩

/-- The kids of x among the first n. -/
def kidsU (u : Nat → Int) (x : Int) : Nat → List Int
  | 0 => []
  | k + 1 => kidsU u x k ++ (if u k = x then [(k : Int)] else [])

theorem kidsU_len (u : Nat → Int) (x : Int) : ∀ k, (kidsU u x k).length ≤ k
  | 0 => Nat.le_refl _
  | k + 1 => by
    have := kidsU_len u x k
    unfold kidsU
    split <;> simp <;> omega

/-- What KidsOf tells: the code, and the list. -/
def kidC (l : List ND) (x : Int) : Int := if treeF l = 0 then (if -1 ≤ x ∧ x < (l.length : Int) then 0 else 3) else treeF l
def kidL (l : List ND) (x : Int) : List Int := if kidC l x = 0 then kidsU (upF l) x l.length else []

theorem kidL_len (l : List ND) (x : Int) (h : l.length ≤ 60 ∨ ¬ kidC l x = 0) : (kidL l x).length ≤ 60 := by
  unfold kidL
  split
  · have := kidsU_len (upF l) x l.length
    rcases h with h | h
    · omega
    · contradiction
  · simp

theorem kidC_len {l : List ND} {x : Int} (h : kidC l x = 0) : l.length ≤ 60 := by
  unfold kidC at h
  by_cases e : treeF l = 0
  · exact treeF_len e
  · rw [if_neg e] at h; exact absurd h e

theorem kidL_small (l : List ND) (x : Int) : (kidL l x).length ≤ 60 := by
  by_cases h : kidC l x = 0
  · exact kidL_len l x (.inl (kidC_len h))
  · exact kidL_len l x (.inr h)

set_option maxRecDepth 100000 in
set_option maxHeartbeats 3200000 in
theorem l6Kids_any (a : Option Addr) (c : Nat) (l : List ND) (x : Int) (w : World) (ha : NsAt w a l) (hl : l.length ≤ 60) :
    Calls Try.prog 41 #[.slice a l.length c, .int .i64 x] w fun e w' => ∃ v, e = .returned v ∧ w'.ownsRow w.heap.size 2 1 v (kidsU (upF l) x l.length).length (ics (kidsU (upF l) x l.length)) ∧ Below w.heap.size w w' := by
  have HA := Hid.mk' ha
  clear ha
  have O0 := Hid.mk' (World.ownsRow_lit (base := w.heap.size) (e := 2) (size := 1) w #[] 0 (Nat.le_refl _) (by unfold maxLen; omega) rfl)
  have B0 := Hid.mk' (below_new w (.cells #[] 2))
  go_enter Try.func41, Try.ntmps41
  go_wp2
  go_loopw [5, 6] (fun v i wr => ∃ k : Nat, k ≤ l.length ∧ i = .int .i64 k ∧ wr.ownsRow w.heap.size 2 1 v (kidsU (upF l) x k).length (ics (kidsU (upF l) x k)) ∧ Below w.heap.size w wr) (fun _ i _ => l.length - (intOf i).toNat)
  case atStart => exact ⟨0, Nat.zero_le _, rfl, O0.out, B0.out⟩
  case round =>
    obtain ⟨k, hk, rfl, hown, hbl⟩ := hrel
    have HO := Hid.mk' hown
    have HB := Hid.mk' hbl
    by_cases hlt : k < l.length
    · have ci : (k : Int) < (l.length : Int) := by omega
      rcases HA.out with ha | ⟨b, o, rfl, hbs, hc⟩
      · exact absurd hlt (by rw [ha]; exact Nat.not_lt_zero _)
      have h1 := (hbl.cell hbs).trans (hc k hlt).1
      have kl := kidsU_len (upF l) x k
      clear hc hown hbl
      by_cases e : (ndK l k).up = x
      · have E : Hid (kidsU (upF l) x (k + 1) = kidsU (upF l) x k ++ [(k : Int)]) := Hid.mk' (by show _ ++ (if (ndK l k).up = x then _ else _) = _; rw [if_pos e])
        rw [e] at h1
        have VB := below_new wr (.cells #[.int .i64 (k : Int)] 2)
        have OV := Hid.mk' (own_keep HO.out VB)
        have NC := Hid.mk' (new_cells wr 2 [.int .i64 (k : Int)] wr.heap.size rfl)
        have SZ : Hid (w.heap.size ≤ (wr.alloc (.cells #[.int .i64 (k : Int)] 2)).heap.size) := Hid.mk' (by have := HB.out.size; simp; omega)
        have HB := Hid.mk' (HB.out.trans (VB.mono HB.out.size))
        clear VB e
        go_wp2_with (at_builtin; refine wpList_append_at _ rfl (.tmp 21) (.tmp 23) 35 rfl w.heap.size 2 (.int .i64 0) 1 8 Try.underlying35 Try.info2 rfl (by decide) _ _ _ rfl OV.out _ 1 _ (ics [(k : Int)]) rfl (by simp [ics]) (.inr ⟨_, rfl, NC.out⟩) (ics_one _) (by unfold maxLen; omega) (by omega) SZ.out ?_; intro v' w1 ho hgr hat)
        have O2 : Hid (w1.ownsRow w.heap.size 2 1 v' (kidsU (upF l) x (k + 1)).length (ics (kidsU (upF l) x (k + 1)))) := Hid.mk' (by
          rw [E.out, List.length_append]
          have : ics (kidsU (upF l) x k ++ [(k : Int)]) = ics (kidsU (upF l) x k) ++ ics [(k : Int)] := by simp [ics]
          rw [this]; exact ho)
        have B2 := Hid.mk' (HB.out.grown hgr SZ.out (own_lo OV.out))
        clear ho hgr hat
        go_roundw
        case rel => exact ⟨k + 1, by omega, by go_num, O2.out, B2.out⟩
        case measure => simp [intOf]; omega
      · have E : Hid (kidsU (upF l) x (k + 1) = kidsU (upF l) x k) := Hid.mk' (by show _ ++ (if (ndK l k).up = x then _ else _) = _; rw [if_neg e, List.append_nil])
        go_wp2
        go_roundw
        case rel => exact ⟨k + 1, by omega, by go_num, by rw [E.out]; exact HO.out, HB.out⟩
        case measure => simp [intOf]; omega
    · have ci : ¬ (k : Int) < (l.length : Int) := by omega
      have e : k = l.length := by omega
      subst e
      clear hown hbl
      go_wp2
      go_ret
      exact ⟨_, rfl, HO.out, HB.out⟩

end Go.Proofs.Ytphilngnkigcfaa
