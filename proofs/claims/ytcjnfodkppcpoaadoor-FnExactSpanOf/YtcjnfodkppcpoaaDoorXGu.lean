/- Lists of numbers: compared, marked, held. -/
import Derived.Test.YtcjnfodkppcpoaaDoorXGn
namespace Go.Proofs.YtcjnfodkppcpoaaDoor
open Go.RowKit
set_option linter.unusedVariables false
set_option linter.unusedSimpArgs false

/-- Numbers in a row of one's own (or none, in none). -/
def OI (w : World) (v : Value) (l : List Int) : Prop := (v = .slice none 0 0 ∧ l = []) ∨
  ∃ g cap cn f, v = .slice (some ⟨g, 0, none⟩) l.length cap ∧ w.rowIs g 2 cn f ∧ l.length ≤ cn ∧ ∀ i, i < l.length → f i = .int .i64 (wv l i)

theorem OI.keep {w w' : World} {v : Value} {l : List Int} (h : OI w v l) (hk : ∀ k, v.ownBlock = some k → k < w.heap.size → w'.heap[k]? = w.heap[k]?) : OI w' v l := by
  rcases h with h | ⟨g, cap, cn, f, rfl, hr, hl, hf⟩
  · exact .inl h
  · exact .inr ⟨g, cap, cn, f, rfl, hr.of_block (hk g rfl hr.lt), hl, hf⟩

theorem OI.below {w w' : World} {v : Value} {l : List Int} (h : OI w v l) (hb : Below w.heap.size w w') : OI w' v l := h.keep fun k _ hl => hb.block k hl

theorem OI.lt {w : World} {v : Value} {l : List Int} (h : OI w v l) : ∀ k, v.ownBlock = some k → k < w.heap.size := by
  rcases h with ⟨rfl, _⟩ | ⟨g, cap, cn, f, rfl, hr, _, _⟩
  · intro k e; simp [Value.ownBlock] at e
  · intro k e; simp [Value.ownBlock] at e; subst e; exact hr.lt

theorem OI.len {w : World} {v : Value} {l : List Int} (h : OI w v l) : ∃ a c, v = .slice a l.length c ∧ IAt w a l := by
  rcases h with ⟨rfl, rfl⟩ | ⟨g, cap, cn, f, rfl, hr, hl, hf⟩
  · exact ⟨none, 0, rfl, .inl rfl⟩
  · exact ⟨_, _, rfl, .inr ⟨g, 0, rfl, hr.lt, fun k hk => by rw [Nat.zero_add, hr.cell (by omega), hf k hk]⟩⟩

theorem OI.of_own {w : World} {base : Nat} {v : Value} {l : List Int} (h : w.ownsRow base 2 1 v l.length (ics l)) : OI w v l := by
  obtain ⟨_, h | ⟨g, cap, cur, rfl, hb, hg, hn, hm, hs, ht⟩⟩ := h
  · obtain ⟨rfl, h0⟩ := h
    exact .inl ⟨rfl, List.eq_nil_of_length_eq_zero h0⟩
  · refine .inr ⟨g, cap, cap, fun i => cur.toList.getD i undef, rfl, ⟨cur, hg, by omega, fun i hi => ?_⟩, hn, fun i hi => ?_⟩
    · have : i < cur.size := by omega
      simp [this]
    · have e := ics_get l i hi
      rw [← ht, List.getElem?_take, if_pos (by omega)] at e
      simp only [List.getD_eq_getElem?_getD, e, Option.getD_some]

/-- The marks that n numbers get. -/
def mi (n : Nat) : List Int := (List.range n).map fun (i : Nat) => (1 : Int) + (i : Int)
theorem mi_len (n : Nat) : (mi n).length = n := by simp [mi]
theorem wv_mi {n i : Nat} (h : i < n) : wv (mi n) i = 1 + (i : Int) := by simp [wv, mi, h]

/-- The kids of x among the first n. -/
def kidsU (u : Nat → Int) (x : Int) : Nat → List Int
  | 0 => []
  | k + 1 => kidsU u x k ++ (if u k = x then [(k : Int)] else [])

theorem kidsU_len (u : Nat → Int) (x : Int) : ∀ k, (kidsU u x k).length ≤ k
  | 0 => Nat.le_refl _
  | k + 1 => by
    have := kidsU_len u x k
    unfold kidsU
    split <;> simp <;> omega

/-- What KidsOf tells: the code, and the list. -/
def kidC (l : List ND) (x : Int) : Int := if treeF l = 0 then (if -1 ≤ x ∧ x < (l.length : Int) then 0 else 3) else treeF l
def kidL (l : List ND) (x : Int) : List Int := if kidC l x = 0 then kidsU (upF l) x l.length else []

theorem kidL_len (l : List ND) (x : Int) (h : l.length ≤ 60 ∨ ¬ kidC l x = 0) : (kidL l x).length ≤ 60 := by
  unfold kidL
  split
  · have := kidsU_len (upF l) x l.length
    rcases h with h | h
    · omega
    · contradiction
  · simp

theorem kidC_len {l : List ND} {x : Int} (h : kidC l x = 0) : l.length ≤ 60 := by
  unfold kidC at h
  by_cases e : treeF l = 0
  · exact treeF_len e
  · rw [if_neg e] at h; exact absurd h e

theorem kidL_small (l : List ND) (x : Int) : (kidL l x).length ≤ 60 := by
  by_cases h : kidC l x = 0
  · exact kidL_len l x (.inl (kidC_len h))
  · exact kidL_len l x (.inr h)

set_option maxRecDepth 100000 in
set_option maxHeartbeats 3200000 in
theorem l6Kids_any (a : Option Addr) (c : Nat) (l : List ND) (x : Int) (w : World) (ha : NsAt w a l) (hl : l.length ≤ 60) :
    Calls Tryd.prog 43 #[.slice a l.length c, .int .i64 x] w fun e w' => ∃ v, e = .returned v ∧ w'.ownsRow w.heap.size 2 1 v (kidsU (upF l) x l.length).length (ics (kidsU (upF l) x l.length)) ∧ Below w.heap.size w w' := by
  have HA := Hid.mk' ha
  clear ha
  have O0 := Hid.mk' (World.ownsRow_lit (base := w.heap.size) (e := 2) (size := 1) w #[] 0 (Nat.le_refl _) (by unfold maxLen; omega) rfl)
  have B0 := Hid.mk' (below_new w (.cells #[] 2))
  go_enter Tryd.func43, Tryd.ntmps43
  go_wp2
  go_loopw [5, 6] (fun v i wr => ∃ k : Nat, k ≤ l.length ∧ i = .int .i64 k ∧ wr.ownsRow w.heap.size 2 1 v (kidsU (upF l) x k).length (ics (kidsU (upF l) x k)) ∧ Below w.heap.size w wr) (fun _ i _ => l.length - (intOf i).toNat)
  case atStart => exact ⟨0, Nat.zero_le _, rfl, O0.out, B0.out⟩
  case round =>
    obtain ⟨k, hk, rfl, hown, hbl⟩ := hrel
    have HO := Hid.mk' hown
    have HB := Hid.mk' hbl
    by_cases hlt : k < l.length
    · have ci : (k : Int) < (l.length : Int) := by omega
      rcases HA.out with ha | ⟨b, o, rfl, hbs, hc⟩
      · exact absurd hlt (by rw [ha]; exact Nat.not_lt_zero _)
      have h1 := (hbl.cell hbs).trans (hc k hlt).1
      have kl := kidsU_len (upF l) x k
      clear hc hown hbl
      by_cases e : (ndK l k).up = x
      · have E : Hid (kidsU (upF l) x (k + 1) = kidsU (upF l) x k ++ [(k : Int)]) := Hid.mk' (by show _ ++ (if (ndK l k).up = x then _ else _) = _; rw [if_pos e])
        rw [e] at h1
        have VB := below_new wr (.cells #[.int .i64 (k : Int)] 2)
        have OV := Hid.mk' (own_keep HO.out VB)
        have NC := Hid.mk' (new_cells wr 2 [.int .i64 (k : Int)] wr.heap.size rfl)
        have SZ : Hid (w.heap.size ≤ (wr.alloc (.cells #[.int .i64 (k : Int)] 2)).heap.size) := Hid.mk' (by have := HB.out.size; simp; omega)
        have HB := Hid.mk' (HB.out.trans (VB.mono HB.out.size))
        clear VB e
        go_wp2_with (at_builtin; refine wpList_append_at _ rfl (.tmp 21) (.tmp 23) 52 rfl w.heap.size 2 (.int .i64 0) 1 8 Tryd.underlying52 Tryd.info2 rfl (by decide) _ _ _ rfl OV.out _ 1 _ (ics [(k : Int)]) rfl (by simp [ics]) (.inr ⟨_, rfl, NC.out⟩) (ics_one _) (by unfold maxLen; omega) (by omega) SZ.out ?_; intro v' w1 ho hgr hat)
        have O2 : Hid (w1.ownsRow w.heap.size 2 1 v' (kidsU (upF l) x (k + 1)).length (ics (kidsU (upF l) x (k + 1)))) := Hid.mk' (by
          rw [E.out, List.length_append]
          have : ics (kidsU (upF l) x k ++ [(k : Int)]) = ics (kidsU (upF l) x k) ++ ics [(k : Int)] := by simp [ics]
          rw [this]; exact ho)
        have B2 := Hid.mk' (HB.out.grown hgr SZ.out (own_lo OV.out))
        clear ho hgr hat
        go_roundw
        case rel => exact ⟨k + 1, by omega, by go_num, O2.out, B2.out⟩
        case measure => simp [intOf]; omega
      · have E : Hid (kidsU (upF l) x (k + 1) = kidsU (upF l) x k) := Hid.mk' (by show _ ++ (if (ndK l k).up = x then _ else _) = _; rw [if_neg e, List.append_nil])
        go_wp2
        go_roundw
        case rel => exact ⟨k + 1, by omega, by go_num, by rw [E.out]; exact HO.out, HB.out⟩
        case measure => simp [intOf]; omega
    · have ci : ¬ (k : Int) < (l.length : Int) := by omega
      have e : k = l.length := by omega
      subst e
      clear hown hbl
      go_wp2
      go_ret
      exact ⟨_, rfl, HO.out, HB.out⟩

end Go.Proofs.YtcjnfodkppcpoaaDoor
