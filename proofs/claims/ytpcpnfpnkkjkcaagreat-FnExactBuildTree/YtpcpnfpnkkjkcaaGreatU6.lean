/- Lists of numbers: compared, marked, held. -/
import Derived.Test.YtpcpnfpnkkjkcaaGreatU5
import Derived.Test.YtpcpnfpnkkjkcaaGreatU2
import Derived.Test.YtpcpnfpnkkjkcaaGreatU3
namespace Go.Proofs.YtpcpnfpnkkjkcaaGreat
open Go.RowKit
set_option linter.unusedVariables false
set_option linter.unusedSimpArgs false

/-- Numbers in a row of one's own (or none, in none). -/
def OI (w : World) (v : Value) (l : List Int) : Prop := (v = .slice none 0 0 ∧ l = []) ∨
  ∃ g cap cn f, v = .slice (some ⟨g, 0, none⟩) l.length cap ∧ w.rowIs g 2 cn f ∧ l.length ≤ cn ∧ ∀ i, i < l.length → f i = .int .i64 (wv l i)

theorem OI.keep {w w' : World} {v : Value} {l : List Int} (h : OI w v l) (hk : ∀ k, v.ownBlock = some k → k < w.heap.size → w'.heap[k]? = w.heap[k]?) : OI w' v l := by
  rcases h with h | ⟨g, cap, cn, f, rfl, hr, hl, hf⟩
  · exact .inl h
  · exact .inr ⟨g, cap, cn, f, rfl, hr.of_block (hk g rfl hr.lt), hl, hf⟩

theorem OI.below {w w' : World} {v : Value} {l : List Int} (h : OI w v l) (hb : Below w.heap.size w w') : OI w' v l := h.keep fun k _ hl => hb.block k hl

theorem OI.lt {w : World} {v : Value} {l : List Int} (h : OI w v l) : ∀ k, v.ownBlock = some k → k < w.heap.size := by
  rcases h with ⟨rfl, _⟩ | ⟨g, cap, cn, f, rfl, hr, _, _⟩
  · intro k e; simp [Value.ownBlock] at e
  · intro k e; simp [Value.ownBlock] at e; subst e; exact hr.lt

theorem OI.len {w : World} {v : Value} {l : List Int} (h : OI w v l) : ∃ a c, v = .slice a l.length c ∧ IAt w a l := by
  rcases h with ⟨rfl, rfl⟩ | ⟨g, cap, cn, f, rfl, hr, hl, hf⟩
  · exact ⟨none, 0, rfl, .inl rfl⟩
  · exact ⟨_, _, rfl, .inr ⟨g, 0, rfl, hr.lt, fun k hk => by rw [Nat.zero_add, hr.cell (by omega), hf k hk]⟩⟩

theorem OI.of_own {w : World} {base : Nat} {v : Value} {l : List Int} (h : w.ownsRow base 2 1 v l.length (ics l)) : OI w v l := by
  obtain ⟨_, h | ⟨g, cap, cur, rfl, hb, hg, hn, hm, hs, ht⟩⟩ := h
  · obtain ⟨rfl, h0⟩ := h
    exact .inl ⟨rfl, List.eq_nil_of_length_eq_zero h0⟩
  · refine .inr ⟨g, cap, cap, fun i => cur.toList.getD i undef, rfl, ⟨cur, hg, by omega, fun i hi => ?_⟩, hn, fun i hi => ?_⟩
    · have : i < cur.size := by omega
      simp [this]
    · have e := ics_get l i hi
      rw [← ht, List.getElem?_take, if_pos (by omega)] at e
      simp only [List.getD_eq_getElem?_getD, e, Option.getD_some]

set_option maxHeartbeats 1600000 in
theorem eqInt64S_any (a b : Option Addr) (c d : Nat) (l : List Int) (w : World) (ha : IAt w a l) (hb : IAt w b l) (hl : (l.length : Int) ≤ 1048576) :
    Calls Tryz.prog 45 #[.slice a l.length c, .slice b l.length d] w fun e w' => e = .returned (.bool true) ∧ Below w.heap.size w w' := by
  have HA := Hid.mk' ha
  have HB := Hid.mk' hb
  clear ha hb
  go_enter Tryz.func45, Tryz.ntmps45
  go_wp2
  go_loopw [5] (fun i wr => ∃ k : Nat, k ≤ l.length ∧ i = .int .i64 k ∧ Below w.heap.size w wr) (fun i _ => l.length - (intOf i).toNat)
  case atStart => exact ⟨0, Nat.zero_le _, rfl, Below.refl _ _⟩
  case round =>
    obtain ⟨k, hk, rfl, hbl⟩ := hrel
    by_cases hlt : k < l.length
    · have ci : (k : Int) < (l.length : Int) := by omega
      rcases HA.out.below hbl with ha | ⟨b1, o1, rfl, s1, hc1⟩
      · exact absurd hlt (by rw [ha]; exact Nat.not_lt_zero _)
      rcases HB.out.below hbl with hb | ⟨b2, o2, rfl, s2, hc2⟩
      · exact absurd hlt (by rw [hb]; exact Nat.not_lt_zero _)
      have h1 := hc1 k hlt
      have h2 := hc2 k hlt
      have R2 := Hid.mk' hbl
      clear hbl hc1 hc2
      go_wp2
      go_quiet (fail)
      go_wp2
      go_roundw
      case rel => exact ⟨k + 1, by omega, by go_num, below_drewN R2.out _⟩
      case measure => simp [intOf]; omega
    · have ci : ¬ (k : Int) < (l.length : Int) := by omega
      go_wp2
      go_ret
      exact ⟨rfl, hbl⟩

/-- The marks that n numbers get. -/
def mi (n : Nat) : List Int := (List.range n).map fun (i : Nat) => (1 : Int) + (i : Int)
theorem mi_len (n : Nat) : (mi n).length = n := by simp [mi]
theorem wv_mi {n i : Nat} (h : i < n) : wv (mi n) i = 1 + (i : Int) := by simp [wv, mi, h]

set_option maxHeartbeats 1600000 in
theorem markInt64S_own (v : Value) (l : List Int) (w : World) (h : OI w v l) (hl : (l.length : Int) ≤ 1048576) :
    Calls Tryz.prog 48 #[v, .int .i64 1] w fun e w' => e = .returned (.int .i64 (1 + (l.length : Int))) ∧ OI w' v (mi l.length) ∧ Turned v w w' := by
  rcases h with ⟨rfl, rfl⟩ | ⟨g, cap, cn, f, rfl, hr, hle, hf⟩
  · go_enter Tryz.func48, Tryz.ntmps48
    go_wp2
    go_loopw [1, 5] (fun x i wr => x = .int .i64 1 ∧ i = .int .i64 0 ∧ wr = w) (fun _ _ _ => 0)
    case atStart => exact ⟨rfl, rfl, rfl⟩
    case round =>
      obtain ⟨rfl, rfl, rfl⟩ := hrel
      go_wp2
      go_ret
      exact ⟨by simp, .inl ⟨rfl, by simp [mi]⟩, Turned.refl _ _⟩
  · have HF := Hid.mk' hf
    clear hf
    go_enter Tryz.func48, Tryz.ntmps48
    go_wp2
    go_loopw [1, 5] (fun x i wr => ∃ k : Nat, k ≤ l.length ∧ i = .int .i64 k ∧ x = .int .i64 (1 + (k : Int)) ∧ wr.rowIs g 2 cn (fun j => if j < k then .int .i64 (1 + (j : Int)) else f j) ∧ KeptIn g (g + 1) w wr) (fun _ i _ => l.length - (intOf i).toNat)
    case atStart => exact ⟨0, Nat.zero_le _, rfl, rfl, hr.congr (fun j _ => by simp), KeptIn.refl _ _ _⟩
    case round =>
      obtain ⟨k, hk, rfl, rfl, hrow, hkp⟩ := hrel
      by_cases hlt : k < l.length
      · have ci : (k : Int) < (l.length : Int) := by omega
        have f0 := hrow.frozen k
        obtain ⟨v0, g0⟩ : ∃ v, wr.cell? ⟨g, k, none⟩ = some v := ⟨_, hrow.cell (by omega)⟩
        have R1 := Hid.mk' ((hrow.set k (.int .i64 (1 + (k : Int)))).congr (g := fun j => if j < k + 1 then .int .i64 (1 + (j : Int)) else f j) (fun j _ => by
          by_cases e : j = k
          · subst e; simp
          · by_cases h : j < k
            · simp [e, h, show j < k + 1 by omega]
            · simp [e, h, show ¬ j < k + 1 by omega]))
        have K1 := Hid.mk' (hkp.setCell (p := ⟨g, k, none⟩) (Nat.le_refl _) (Nat.lt_succ_self _) (.int .i64 (1 + (k : Int))))
        clear hrow hkp
        go_wp2
        go_roundw
        case rel => exact ⟨k + 1, by omega, by go_num, by go_num, R1.out, K1.out⟩
        case measure => simp [intOf]; omega
      · have ci : ¬ (k : Int) < (l.length : Int) := by omega
        have e : k = l.length := by omega
        subst e
        have O1 : Hid (OI wr (.slice (some ⟨g, 0, none⟩) l.length cap) (mi l.length)) := Hid.mk' (.inr ⟨g, cap, cn, _, by rw [mi_len], hrow, by rw [mi_len]; exact hle, fun i hi => by rw [mi_len] at hi; rw [wv_mi hi, if_pos hi]⟩)
        have T1 := Hid.mk' (Turned.of_kept (n := l.length) (c := cap) hkp)
        clear hrow hkp
        go_wp2
        go_ret
        exact ⟨rfl, O1.out, T1.out⟩

set_option maxHeartbeats 1600000 in
theorem heldInt64S_own (v : Value) (n : Nat) (w : World) (h : OI w v (mi n)) (hl : (n : Int) ≤ 1048576) :
    Calls Tryz.prog 80 #[v, .int .i64 1] w fun e w' => e = .returned (.int .i64 (1 + (n : Int))) ∧ Below w.heap.size w w' := by
  obtain ⟨a, c, rfl, hi⟩ := h.len
  rw [mi_len]
  have HI := Hid.mk' hi
  clear h hi
  go_enter Tryz.func80, Tryz.ntmps80
  go_wp2
  go_loopw [1, 5] (fun x i wr => ∃ k : Nat, k ≤ n ∧ i = .int .i64 k ∧ x = .int .i64 (1 + (k : Int)) ∧ Below w.heap.size w wr) (fun _ i _ => n - (intOf i).toNat)
  case atStart => exact ⟨0, Nat.zero_le _, rfl, rfl, Below.refl _ _⟩
  case round =>
    obtain ⟨k, hk, rfl, rfl, hbl⟩ := hrel
    have HB := Hid.mk' hbl
    by_cases hlt : k < n
    · have ci : (k : Int) < (n : Int) := by omega
      rcases HI.out.below hbl with ha | ⟨b, o, rfl, hbs, hc⟩
      · have := congrArg List.length ha; rw [mi_len] at this; simp at this; omega
      have h1 := hc k (by rw [mi_len]; exact hlt)
      rw [wv_mi hlt] at h1
      clear hc hbl
      go_wp2
      go_roundw
      case rel => exact ⟨k + 1, by omega, by go_num, by go_num, HB.out⟩
      case measure => simp [intOf]; omega
    · have ci : ¬ (k : Int) < (n : Int) := by omega
      have e : k = n := by omega
      subst e
      clear hbl
      go_wp2
      go_ret
      exact ⟨rfl, HB.out⟩

/-- The kids of x among the first n. -/
def kidsU (u : Nat → Int) (x : Int) : Nat → List Int
  | 0 => []
  | k + 1 => kidsU u x k ++ (if u k = x then [(k : Int)] else [])

theorem kidsU_len (u : Nat → Int) (x : Int) : ∀ k, (kidsU u x k).length ≤ k
  | 0 => Nat.le_refl _
  | k + 1 => by
    have := kidsU_len u x k
    unfold kidsU
    split <;> simp <;> omega

/-- What KidsOf tells: the code, and the list. -/
def kidC (l : List ND) (x : Int) : Int := if treeF l = 0 then (if -1 ≤ x ∧ x < (l.length : Int) then 0 else 3) else treeF l
def kidL (l : List ND) (x : Int) : List Int := if kidC l x = 0 then kidsU (upF l) x l.length else []

theorem kidL_len (l : List ND) (x : Int) (h : l.length ≤ 60 ∨ ¬ kidC l x = 0) : (kidL l x).length ≤ 60 := by
  unfold kidL
  split
  · have := kidsU_len (upF l) x l.length
    rcases h with h | h
    · omega
    · contradiction
  · simp

theorem kidC_len {l : List ND} {x : Int} (h : kidC l x = 0) : l.length ≤ 60 := by
  unfold kidC at h
  by_cases e : treeF l = 0
  · exact treeF_len e
  · rw [if_neg e] at h; exact absurd h e

theorem kidL_small (l : List ND) (x : Int) : (kidL l x).length ≤ 60 := by
  by_cases h : kidC l x = 0
  · exact kidL_len l x (.inl (kidC_len h))
  · exact kidL_len l x (.inr h)

end Go.Proofs.YtpcpnfpnkkjkcaaGreat

/- States of a builder in memory: measured, copied, told to be the same. -/
namespace Go.Proofs.YtpcpnfpnkkjkcaaGreat
open Go.RowKit
set_option linter.unusedVariables false
set_option linter.unusedSimpArgs false

/-- A state: nodes, what is open, whether it is too large. -/
structure BS where
  nd : List ND
  op : List Int
  lg : Bool

/-- Nodes of one's own at g, just as they are; hi: behind all their rows. -/
def NX (g hi : Nat) (l : List ND) (w : World) : Prop := ∃ (f : Nat → Value) (s : Nat → Nat), w.rowIs g 104 (l.length * 4) f ∧ g < s 0 ∧ s l.length = hi ∧ hi ≤ w.heap.size ∧ (∀ j, j < l.length → s j ≤ s (j + 1)) ∧ ∀ j, j < l.length → NO (s j) (s (j + 1)) (ndK l j) f j w

theorem NR.nx {w wr : World} {l : List ND} (h : NR w l l.length wr) : ∃ hi, NX w.heap.size hi l wr := by
  obtain ⟨f, s, hf, h0, h1, h2, hj⟩ := h.row
  exact ⟨s l.length, f, s, hf, h0, rfl, h1, h2, hj⟩

theorem NX.nm {g hi : Nat} {l : List ND} {w : World} (h : NX g hi l w) : NM g hi l w := by
  obtain ⟨f, s, hf, h0, h1, h2, h3, hj⟩ := h
  refine ⟨f, s, hf, h0, h1, h2, h3, fun j hl => ?_⟩
  obtain ⟨e1, e2, g', b, e3, e4, h5, h6, h7, h8⟩ := hj j hl
  exact ⟨⟨_, e1⟩, ⟨_, e2⟩, g', b, e3, e4, h5, h6, h7.mr, _, h8⟩

theorem NX.at {g hi : Nat} {l : List ND} {w : World} (h : NX g hi l w) : NsAt w (some ⟨g, 0, none⟩) l := by
  obtain ⟨f, s, hf, h0, h1, h2, h3, hj⟩ := h
  refine .inr ⟨_, _, rfl, hf.lt, fun k hk => ?_⟩
  obtain ⟨e1, e2, g', b, e3, e4, h5, h6, h7, h8⟩ := hj k hk
  have c := fun i (hi : i < 4) => hf.cell (show k * 4 + i < l.length * 4 by omega)
  refine ⟨by rw [Nat.zero_add]; exact (c 0 (by omega)).trans (by rw [Nat.add_zero, e1]), by rw [Nat.zero_add, c 1 (by omega), e2], ⟨_, _, by rw [Nat.zero_add, c 2 (by omega), e3], Nat.le_refl _, h7.ao.at⟩, ⟨_, _, by rw [Nat.zero_add, c 3 (by omega), e4], .of_row h8⟩⟩

theorem NX.lt {g hi : Nat} {l : List ND} {w : World} (h : NX g hi l w) : g < hi ∧ hi ≤ w.heap.size := by
  obtain ⟨f, s, hf, h0, h1, h2, h3, hj⟩ := h
  have := mono_s2 h3 (i := 0) l.length (by omega) (Nat.le_refl _)
  exact ⟨by omega, h2⟩

theorem NX.keep {g hi : Nat} {l : List ND} {w w' : World} (h : NX g hi l w) (hs : w.heap.size ≤ w'.heap.size) (hk : ∀ k, g ≤ k → k < hi → k < w.heap.size → w'.heap[k]? = w.heap[k]?) : NX g hi l w' := by
  obtain ⟨f, s, hf, h0, h1, h2, h3, hj⟩ := h
  have m0 := mono_s2 h3 (i := 0) l.length (by omega) (Nat.le_refl _)
  refine ⟨f, s, hf.of_block (hk g (Nat.le_refl _) (by omega) hf.lt), h0, h1, Nat.le_trans h2 hs, h3, fun j hl => (hj j hl).keep (fun _ _ => rfl) (fun i a c d => ?_)⟩
  have m1 := mono_s2 h3 (i := 0) j (by omega) (by omega)
  have m2 := mono_s2 h3 (i := j + 1) l.length (by omega) (Nat.le_refl _)
  exact hk i (by omega) (by omega) d

theorem NX.below {g hi : Nat} {l : List ND} {w w' : World} (h : NX g hi l w) (hb : Below w.heap.size w w') : NX g hi l w' := h.keep hb.size (fun q _ _ hq => hb.block q hq)

theorem NX.kept {g hi lo' hi' : Nat} {l : List ND} {w w' : World} (h : NX g hi l w) (hk : KeptIn lo' hi' w w') (hd : hi ≤ lo' ∨ hi' ≤ g) : NX g hi l w' := h.keep hk.size (fun q a c d => hk.block q d (by omega))

/-- The i-th of numbers, as a value. -/
def iv (l : List Int) (i : Nat) : Value := .int .i64 (wv l i)

theorem IAt.of_row {w : World} {b : Nat} {l : List Int} (h : w.rowIs b 2 l.length (iv l)) : IAt w (some ⟨b, 0, none⟩) l :=
  .inr ⟨b, 0, rfl, h.lt, fun k hk => by rw [Nat.zero_add]; exact h.cell hk⟩

theorem szInt64S_any (a : Option Addr) (n c : Nat) (l : Int) (w : World) (h0 : 0 ≤ l) (h1 : l ≤ 1048576) (hn : (n : Int) ≤ 9223372036854775807) :
    Calls Tryz.prog 31 #[.slice a n c, .int .i64 l] w fun e w' => e = .returned (.int .i64 (if l < n then -1 else l - n)) ∧ w' = w := by
  go_enter Tryz.func31, Tryz.ntmps31
  go_wp2
  all_goals go_ret
  all_goals exact ⟨rfl, rfl⟩

set_option maxHeartbeats 800000 in
theorem toInt64S_any (a : Option Addr) (c : Nat) (l : List Int) (w : World) (ha : IAt w a l) (hl : (l.length : Int) ≤ 1048576) :
    Calls Tryz.prog 38 #[.slice a l.length c] w fun e w' => ∃ b, e = .returned (.slice (some ⟨b, 0, none⟩) l.length l.length) ∧ w.heap.size ≤ b ∧ w'.rowIs b 2 l.length (iv l) ∧ Below w.heap.size w w' := by
  have hmk := run_make_row' (P := Tryz.prog) 23 2 (.int .i64 0) 8 Tryz.underlying23 Tryz.info2 rfl .i64 .i64 l.length (by omega) (by omega)
  go_enter Tryz.func38, Tryz.ntmps38
  go_wp2
  go_loopw [4] (fun i wr => ∃ k : Nat, k ≤ l.length ∧ i = .int .i64 k ∧ wr.rowIs w.heap.size 2 l.length (fun j => if j < k then iv l j else .int .i64 0) ∧ Below w.heap.size w wr) (fun i _ => l.length - (intOf i).toNat)
  case atStart => exact ⟨0, Nat.zero_le _, rfl, (World.rowIs_made w (.int .i64 0) _ 2).congr (fun j _ => by simp), (Below.refl _ _).alloc (Nat.le_refl _) _⟩
  case round =>
    obtain ⟨k, hk, rfl, hrow, hbl⟩ := hrel
    by_cases hlt : k < l.length
    · have ci : (k : Int) < (l.length : Int) := by omega
      rcases ha with ha | ⟨b, o, rfl, hbs, hc⟩
      · exact absurd hlt (by rw [ha]; exact Nat.not_lt_zero _)
      have h1 := (hbl.cell hbs).trans (hc k hlt)
      obtain ⟨v0, h2⟩ : ∃ v, wr.cell? ⟨w.heap.size, k, none⟩ = some v := ⟨_, hrow.cell hlt⟩
      have h3 := hrow.frozen k
      have R1 := Hid.mk' ((hrow.set k (.int .i64 (wv l k))).congr (g := fun j => if j < k + 1 then iv l j else .int .i64 0) (fun j _ => by
        by_cases e : j = k
        · subst e; simp [iv]
        · by_cases h : j < k
          · simp [e, h, show j < k + 1 by omega]
          · simp [e, h, show ¬ j < k + 1 by omega]))
      have R2 := Hid.mk' (hbl.setCell (p := ⟨w.heap.size, k, none⟩) (Nat.le_refl _) (.int .i64 (wv l k)))
      clear hrow hbl hmk hc
      go_wp2
      go_roundw
      case rel => exact ⟨k + 1, by omega, by go_num, R1.out, R2.out⟩
      case measure => simp [intOf]; omega
    · have ci : ¬ (k : Int) < (l.length : Int) := by omega
      have e : k = l.length := by omega
      subst e
      have R1 := Hid.mk' (hrow.congr (g := iv l) (fun j hj => by rw [if_pos hj]))
      have R2 := Hid.mk' hbl
      clear hrow hbl hmk
      go_wp2
      go_ret
      exact ⟨_, rfl, Nat.le_refl _, R1.out, R2.out⟩

set_option maxHeartbeats 1600000 in
theorem szBuild_any (t : BS) (a b : Option Addr) (c d : Nat) (z : Int) (w : World) (ha : NsAt w a t.nd) (hw : WideN t.nd) (hn : (t.nd.length : Int) ≤ 9223372036854775807) (ho : (t.op.length : Int) ≤ 9223372036854775807) (h0 : 0 ≤ z) (h1 : z ≤ 1048576) :
    Calls Tryz.prog 6 #[.agg #[.slice a t.nd.length c, .slice b t.op.length d, .bool t.lg], .int .i64 z] w fun e w' => e = .returned (.int .i64 (if z < (t.nd.length : Int) + nssz t.nd + t.op.length then -1 else z - t.nd.length - nssz t.nd - t.op.length)) ∧ Below w.heap.size w w' := by
  have N0 := below_new w (.cells #[.slice a t.nd.length c, .slice b t.op.length d, .bool t.lg] 25)
  have KA := Hid.mk' (szNodeS_any a c t.nd z _ (ha.below N0) hw h0 h1 hn)
  have HP := Hid.mk' (row3 w 25 (.slice a t.nd.length c) (.slice b t.op.length d) (.bool t.lg))
  have HB := Hid.mk' N0
  clear N0 ha hw
  by_cases g2 : z < (t.nd.length : Int) + nssz t.nd
  · rw [if_pos g2] at KA
    rw [if_pos (by omega)]
    go_enter Tryz.func6, Tryz.ntmps6
    go_wp2_with fail
    refine KA.out.mono ?_
    rintro e w1 ⟨rfl, hb⟩
    have HB := Hid.mk' (HB.out.trans (hb.mono HB.out.size))
    clear hb KA
    go_wp2
    go_ret
    exact ⟨rfl, HB.out⟩
  · rw [if_neg g2] at KA
    have gy : ¬ (z - (t.nd.length : Int) - nssz t.nd < 0) := by omega
    by_cases g3 : z - (t.nd.length : Int) - nssz t.nd < (t.op.length : Int)
    · rw [if_pos (by omega)]
      go_enter Tryz.func6, Tryz.ntmps6
      go_wp2_with fail
      refine KA.out.mono ?_
      rintro e w1 ⟨rfl, hb⟩
      have R1 := rowB HP.out hb
      have c0 : w1.cell? ⟨w.heap.size, 0, none⟩ = some (.slice a t.nd.length c) := R1.cell (by omega)
      have c1 : w1.cell? ⟨w.heap.size, 1, none⟩ = some (.slice b t.op.length d) := R1.cell (by omega)
      have HB := Hid.mk' (HB.out.trans (hb.mono HB.out.size))
      clear hb KA R1
      go_wp2_with (go_at_call 31; refine (szInt64S_any _ _ _ _ _ (by omega) (by omega) (by omega)).mono ?_; rintro e w' ⟨rfl, rfl⟩)
      go_ret
      exact ⟨rfl, HB.out⟩
    · rw [if_neg (by omega)]
      go_enter Tryz.func6, Tryz.ntmps6
      go_wp2_with fail
      refine KA.out.mono ?_
      rintro e w1 ⟨rfl, hb⟩
      have R1 := rowB HP.out hb
      have c0 : w1.cell? ⟨w.heap.size, 0, none⟩ = some (.slice a t.nd.length c) := R1.cell (by omega)
      have c1 : w1.cell? ⟨w.heap.size, 1, none⟩ = some (.slice b t.op.length d) := R1.cell (by omega)
      have HB := Hid.mk' (HB.out.trans (hb.mono HB.out.size))
      clear hb KA R1
      go_wp2_with (go_at_call 31; refine (szInt64S_any _ _ _ _ _ (by omega) (by omega) (by omega)).mono ?_; rintro e w' ⟨rfl, rfl⟩)
      go_ret
      exact ⟨by first | rfl | (congr 2; omega), HB.out⟩

set_option maxHeartbeats 3200000 in
theorem toBuild_any (t : BS) (a b : Option Addr) (c d : Nat) (w : World) (ha : NsAt w a t.nd) (hb : IAt w b t.op) (hl : (t.nd.length : Int) + nssz t.nd + t.op.length ≤ 1048576) :
    Calls Tryz.prog 9 #[.agg #[.slice a t.nd.length c, .slice b t.op.length d, .bool t.lg]] w fun e w' => ∃ gn hi go, e = .returned (.agg #[.slice (some ⟨gn, 0, none⟩) t.nd.length t.nd.length, .slice (some ⟨go, 0, none⟩) t.op.length t.op.length, .bool t.lg]) ∧ w.heap.size ≤ gn ∧ NX gn hi t.nd w' ∧ hi ≤ go ∧ w'.rowIs go 2 t.op.length (iv t.op) ∧ Below w.heap.size w w' := by
  have B0 := ((Below.refl w.heap.size w).alloc (Nat.le_refl _) (.cells #[.slice a t.nd.length c, .slice b t.op.length d, .bool t.lg] 25)).alloc (by simp) (.cells #[.slice none 0 0, .slice none 0 0, .bool false] 33)
  have B1 := B0.alloc (by simp; omega) (.cells #[.slice none 0 0, .slice none 0 0, .bool false] 33)
  have RP := ((row3 w 25 (.slice a t.nd.length c) (.slice b t.op.length d) (.bool t.lg)).alloc (.cells #[.slice none 0 0, .slice none 0 0, .bool false] 33)).alloc (.cells #[.slice none 0 0, .slice none 0 0, .bool false] 33)
  have RR := (row3 (w.alloc (.cells #[.slice a t.nd.length c, .slice b t.op.length d, .bool t.lg] 25)) 33 (.slice none 0 0) (.slice none 0 0) (.bool false)).alloc (.cells #[.slice none 0 0, .slice none 0 0, .bool false] 33)
  have RO := row3 ((w.alloc (.cells #[.slice a t.nd.length c, .slice b t.op.length d, .bool t.lg] 25)).alloc (.cells #[.slice none 0 0, .slice none 0 0, .bool false] 33)) 33 (.slice none 0 0) (.slice none 0 0) (.bool false)
  have KB := Hid.mk' (toNodeS_any a c t.nd _ (ha.below B1) (by omega))
  have HB := Hid.mk' B1
  have HT := Hid.mk' hb
  have z1 : (w.alloc (.cells #[.slice a t.nd.length c, .slice b t.op.length d, .bool t.lg] 25)).heap.size = w.heap.size + 1 := by simp
  have z2 : ((w.alloc (.cells #[.slice a t.nd.length c, .slice b t.op.length d, .bool t.lg] 25)).alloc (.cells #[.slice none 0 0, .slice none 0 0, .bool false] 33)).heap.size = w.heap.size + 1 + 1 := by simp
  have z3 : (((w.alloc (.cells #[.slice a t.nd.length c, .slice b t.op.length d, .bool t.lg] 25)).alloc (.cells #[.slice none 0 0, .slice none 0 0, .bool false] 33)).alloc (.cells #[.slice none 0 0, .slice none 0 0, .bool false] 33)).heap.size = w.heap.size + 1 + 1 + 1 := by simp
  rw [z1] at RR
  rw [z2] at RO
  have HR := Hid.mk' RR
  have HO := Hid.mk' RO
  have HP := Hid.mk' RP
  have Z3 := Hid.mk' z3
  clear ha hb B0 B1 RR RO RP z1 z2 z3
  generalize hW : ((w.alloc (.cells #[.slice a t.nd.length c, .slice b t.op.length d, .bool t.lg] 25)).alloc (.cells #[.slice none 0 0, .slice none 0 0, .bool false] 33)).alloc (.cells #[.slice none 0 0, .slice none 0 0, .bool false] 33) = W at *
  have p0 : W.cell? ⟨w.heap.size, 0, none⟩ = some (.slice a t.nd.length c) := HP.out.cell (by omega)
  go_enter Tryz.func9, Tryz.ntmps9
  go_wp2_with fail
  clear hW p0
  refine KB.out.mono ?_
  rintro e w1 ⟨rfl, har⟩
  have hbl := har.bl
  obtain ⟨hi, hnx⟩ := har.nx
  have Hp := rowB HP.out hbl
  have Ho := rowB HO.out hbl
  have Hr := rowB HR.out hbl
  have hz := Z3.out
  have hs1 := hbl.size
  have K1 := (KeptIn.refl (w.heap.size + 1 + 1) (w.heap.size + 1 + 1 + 1) w1).setCell (p := ⟨w.heap.size + 1 + 1, 0, none⟩) (by simp) (by simp) (.slice (some ⟨W.heap.size, 0, none⟩) t.nd.length t.nd.length)
  have B2 := (HB.out.trans (hbl.mono HB.out.size)).trans (K1.below (B := w.heap.size) (by omega) (by omega))
  have KT := Hid.mk' (toInt64S_any b d t.op _ (HT.out.below B2) (by omega))
  have HX := Hid.mk' (hnx.kept K1 (.inr (by omega)))
  have BB := Hid.mk' B2
  have Hp2 := Hid.mk' (rowK Hp K1 (.inl (by omega)))
  have Ho2 := Hid.mk' (Ho.set 0 (.slice (some ⟨W.heap.size, 0, none⟩) t.nd.length t.nd.length))
  have Hr2 := Hid.mk' (rowK Hr K1 (.inl (by omega)))
  have o0 : w1.cell? ⟨w.heap.size + 1 + 1, 0, none⟩ = some (.slice none 0 0) := Ho.cell (by omega)
  have fo0 := Ho.frozen 0
  have S2 : Hid ((w1.setCell ⟨w.heap.size + 1 + 1, 0, none⟩ (.slice (some ⟨W.heap.size, 0, none⟩) t.nd.length t.nd.length)).heap.size = w1.heap.size) := Hid.mk' (by simp [World.setCell])
  have p1 := Hp2.out.cell (i := 1) (by omega)
  have S1 := Hid.mk' hs1
  have ZZ := Hid.mk' hz
  clear Hp Ho Hr har hbl K1 B2 KB HO HR HP HB HT Z3 hz hs1 hnx
  generalize hV : w1.setCell ⟨w.heap.size + 1 + 1, 0, none⟩ (.slice (some ⟨W.heap.size, 0, none⟩) t.nd.length t.nd.length) = V at *
  have p1 : V.cell? ⟨w.heap.size, 1, none⟩ = some (.slice b t.op.length d) := p1
  go_wp2_with fail
  clear hV o0 fo0 p1
  refine KT.out.mono ?_
  rintro e w2 ⟨go, rfl, hgo, hrow, hbl⟩
  have Ho := rowB Ho2.out hbl
  have Hr := rowB Hr2.out hbl
  have Hp := rowB Hp2.out hbl
  have p2' : w2.cell? ⟨w.heap.size, 2, none⟩ = some (.bool t.lg) := Hp.cell (by omega)
  have o0 : w2.cell? ⟨w.heap.size + 1 + 1, 0, none⟩ = some (.slice (some ⟨W.heap.size, 0, none⟩) t.nd.length t.nd.length) := Ho.cell (by omega)
  have o1 : w2.cell? ⟨w.heap.size + 1 + 1, 1, none⟩ = some (.slice none 0 0) := Ho.cell (by omega)
  have o2 : w2.cell? ⟨w.heap.size + 1 + 1, 2, none⟩ = some (.bool false) := Ho.cell (by omega)
  have r0 : w2.cell? ⟨w.heap.size + 1, 0, none⟩ = some (.slice none 0 0) := Hr.cell (by omega)
  have r1 : w2.cell? ⟨w.heap.size + 1, 1, none⟩ = some (.slice none 0 0) := Hr.cell (by omega)
  have r2 : w2.cell? ⟨w.heap.size + 1, 2, none⟩ = some (.bool false) := Hr.cell (by omega)
  have fo1 := Ho.frozen 1
  have fo2 := Ho.frozen 2
  have fr0 := Hr.frozen 0
  have fr1 := Hr.frozen 1
  have fr2 := Hr.frozen 2
  have AH := Hid.mk' (HX.out.below hbl)
  have HI := Hid.mk' HX.out.lt
  have RW := Hid.mk' hrow
  have BL := Hid.mk' hbl
  have hb' := Hid.mk' hgo
  clear Ho Hr Hp hrow hbl KT Ho2 Hr2 Hp2 HX hgo
  go_wp2
  refine bodyPost_ret (v := .agg #[.slice (some ⟨W.heap.size, 0, none⟩) t.nd.length t.nd.length, .slice (some ⟨go, 0, none⟩) t.op.length t.op.length, .bool t.lg]) (by simp [results, Tryz.results9, go_sem, *]) rfl ?_
  have e1 := ZZ.out
  have e2 := S1.out
  have e3 := S2.out
  have e4 := hb'.out
  have e5 := HI.out
  have e6 := BL.out.size
  have KK := (((((KeptIn.refl (w.heap.size + 1) (w.heap.size + 1 + 1 + 1) w2).setCell (p := ⟨w.heap.size + 1 + 1, 1, none⟩) (by simp) (by simp) (.slice (some ⟨go, 0, none⟩) t.op.length t.op.length)).setCell (p := ⟨w.heap.size + 1 + 1, 2, none⟩) (by simp) (by simp) (.bool t.lg)).setCell (p := ⟨w.heap.size + 1, 0, none⟩) (by simp) (by simp) (.slice (some ⟨W.heap.size, 0, none⟩) t.nd.length t.nd.length)).setCell (p := ⟨w.heap.size + 1, 1, none⟩) (by simp) (by simp) (.slice (some ⟨go, 0, none⟩) t.op.length t.op.length)).setCell (p := ⟨w.heap.size + 1, 2, none⟩) (by simp) (by simp) (.bool t.lg)
  exact ⟨W.heap.size, hi, go, rfl, by omega, AH.out.kept KK (.inr (by omega)), by omega, rowK RW.out KK (.inr (by omega)), (BB.out.trans (BL.out.mono BB.out.size)).trans (KK.below (by omega) (by omega))⟩

set_option maxHeartbeats 1600000 in
theorem eqBuild_any (t : BS) (a b p q : Option Addr) (c d c' d' : Nat) (w : World) (ha : NsAt w a t.nd) (hb : NsAt w b t.nd) (hp : IAt w p t.op) (hq : IAt w q t.op) (hl : (t.nd.length : Int) + nssz t.nd + t.op.length ≤ 1048576) :
    Calls Tryz.prog 13 #[.agg #[.slice a t.nd.length c, .slice p t.op.length c', .bool t.lg], .agg #[.slice b t.nd.length d, .slice q t.op.length d', .bool t.lg]] w fun e w' => e = .returned (.bool true) ∧ Below w.heap.size w w' := by
  have B0 := ((Below.refl w.heap.size w).alloc (Nat.le_refl _) (.cells #[.slice a t.nd.length c, .slice p t.op.length c', .bool t.lg] 33)).alloc (by simp) (.cells #[.slice b t.nd.length d, .slice q t.op.length d', .bool t.lg] 33)
  have R1 := (row3 w 33 (.slice a t.nd.length c) (.slice p t.op.length c') (.bool t.lg)).alloc (.cells #[.slice b t.nd.length d, .slice q t.op.length d', .bool t.lg] 33)
  have R2 := row3 (w.alloc (.cells #[.slice a t.nd.length c, .slice p t.op.length c', .bool t.lg] 33)) 33 (.slice b t.nd.length d) (.slice q t.op.length d') (.bool t.lg)
  have z1 : (w.alloc (.cells #[.slice a t.nd.length c, .slice p t.op.length c', .bool t.lg] 33)).heap.size = w.heap.size + 1 := by simp
  rw [z1] at R2
  have H1 := Hid.mk' R1
  have H2 := Hid.mk' R2
  have KB := Hid.mk' (eqNodeS_any a b c d t.nd _ (ha.below B0) (hb.below B0) (by omega))
  have HX := Hid.mk' (hp.below B0)
  have HY := Hid.mk' (hq.below B0)
  have HB := Hid.mk' B0
  clear ha hb hp hq B0 R1 R2 z1
  generalize hW : (w.alloc (.cells #[.slice a t.nd.length c, .slice p t.op.length c', .bool t.lg] 33)).alloc (.cells #[.slice b t.nd.length d, .slice q t.op.length d', .bool t.lg] 33) = W at *
  have p0 : W.cell? ⟨w.heap.size, 0, none⟩ = some (.slice a t.nd.length c) := H1.out.cell (by omega)
  have q0 : W.cell? ⟨w.heap.size + 1, 0, none⟩ = some (.slice b t.nd.length d) := H2.out.cell (by omega)
  go_enter Tryz.func13, Tryz.ntmps13
  go_wp2_with fail
  clear hW p0 q0
  refine KB.out.mono ?_
  rintro e w1 ⟨rfl, hb⟩
  have R1 := rowB H1.out hb
  have R2 := rowB H2.out hb
  have p1 : w1.cell? ⟨w.heap.size, 1, none⟩ = some (.slice p t.op.length c') := R1.cell (by omega)
  have q1 : w1.cell? ⟨w.heap.size + 1, 1, none⟩ = some (.slice q t.op.length d') := R2.cell (by omega)
  have H1 := Hid.mk' R1
  have H2 := Hid.mk' R2
  have KT := Hid.mk' (eqInt64S_any p q c' d' t.op w1 (HX.out.below hb) (HY.out.below hb) (by omega))
  have HB := Hid.mk' (HB.out.trans (hb.mono HB.out.size))
  clear hb KB R1 R2
  go_wp2_with fail
  refine KT.out.mono ?_
  rintro e w2 ⟨rfl, hb⟩
  have p2' : w2.cell? ⟨w.heap.size, 2, none⟩ = some (.bool t.lg) := (rowB H1.out hb).cell (by omega)
  have q2' : w2.cell? ⟨w.heap.size + 1, 2, none⟩ = some (.bool t.lg) := (rowB H2.out hb).cell (by omega)
  have HB := Hid.mk' (HB.out.trans (hb.mono HB.out.size))
  clear hb KT
  go_wp2
  go_ret
  exact ⟨rfl, HB.out⟩

/-- A state lies in memory. -/
def SAt (w : World) (a p : Option Addr) (s : BS) : Prop := NsAt w a s.nd ∧ IAt w p s.op

theorem SAt.below {w w' : World} {a p : Option Addr} {s : BS} (h : SAt w a p s) (hb : Below w.heap.size w w') : SAt w' a p s := ⟨h.1.below hb, h.2.below hb⟩

theorem toBuild_at (t : BS) (a b : Option Addr) (c d : Nat) (w : World) (ha : SAt w a b t) (hl : (t.nd.length : Int) + nssz t.nd + t.op.length ≤ 1048576) :
    Calls Tryz.prog 9 #[.agg #[.slice a t.nd.length c, .slice b t.op.length d, .bool t.lg]] w fun e w' => ∃ gn go, e = .returned (.agg #[.slice (some ⟨gn, 0, none⟩) t.nd.length t.nd.length, .slice (some ⟨go, 0, none⟩) t.op.length t.op.length, .bool t.lg]) ∧ SAt w' (some ⟨gn, 0, none⟩) (some ⟨go, 0, none⟩) t ∧ Below w.heap.size w w' := by
  refine (toBuild_any t a b c d w ha.1 ha.2 hl).mono ?_
  rintro e w' ⟨gn, hi, go, rfl, _, h1, _, h2, h3⟩
  exact ⟨gn, go, rfl, ⟨h1.at, IAt.of_row h2⟩, h3⟩

end Go.Proofs.YtpcpnfpnkkjkcaaGreat

/- Both sides' BuildFault. -/
namespace Go.Proofs.YtpcpnfpnkkjkcaaGreat
open Go.RowKit
set_option linter.unusedVariables false
set_option linter.unusedSimpArgs false

/-- The one ahead of the k-th that is open; -1: none is. -/
def aheadI (op : List Int) (k : Nat) : Int := if k = 0 then -1 else wv op (k - 1)

theorem aheadI_succ (op : List Int) (k : Nat) : aheadI op (k + 1) = wv op k := by unfold aheadI; rw [if_neg (by omega)]; rfl

/-- What is wrong with the k-th that is open. -/
def openF (l : List ND) (op : List Int) (k : Nat) : Int :=
  if 0 ≤ wv op k ∧ wv op k < (l.length : Int) then (if (ndK l (wv op k).toNat).up = aheadI op k ∧ holdB (ndK l (wv op k).toNat) = true then 0 else 1) else 3

def opensF (l : List ND) (op : List Int) : Int := firstF (openF l op) op.length 0

/-- What is wrong with all that is open. -/
def restF (l : List ND) (op : List Int) : Int :=
  if opensF l op = 0 then (if 7 < op.length then 2 else if 0 < op.length ∧ inW (wayU (upF l) l.length) (aheadI op op.length) = false then 1 else 0) else opensF l op

/-- The code of a state. -/
def bldF (s : BS) : Int :=
  if treeF s.nd = 0 then (if s.lg = true ∧ (0 < s.nd.length ∨ 0 < s.op.length) then 1 else restF s.nd s.op) else treeF s.nd

theorem openF_out {l : List ND} {op : List Int} {k : Nat} (h : ¬ (0 ≤ wv op k ∧ wv op k < (l.length : Int))) : openF l op k = 3 := by unfold openF; rw [if_neg h]
theorem openF_no {l : List ND} {op : List Int} {k m : Nat} (hm : wv op k = (m : Int)) (hl : m < l.length) (h : ¬ ((ndK l m).up = aheadI op k ∧ holdB (ndK l m) = true)) : openF l op k = 1 := by
  unfold openF; rw [hm, if_pos ⟨by omega, by omega⟩, Int.toNat_natCast, if_neg h]
theorem openF_yes {l : List ND} {op : List Int} {k m : Nat} (hm : wv op k = (m : Int)) (hl : m < l.length) (h1 : (ndK l m).up = aheadI op k) (h2 : holdB (ndK l m) = true) : openF l op k = 0 := by
  unfold openF; rw [hm, if_pos ⟨by omega, by omega⟩, Int.toNat_natCast, if_pos ⟨h1, h2⟩]

theorem opensF_hit {l : List ND} {op : List Int} {k : Nat} {c : Int} (hk : k < op.length) (hz : ∀ j, j < k → openF l op j = 0) (hc : openF l op k = c) (h0 : ¬ c = 0) : opensF l op = c := by
  unfold opensF
  rw [firstF_hit (openF l op) op.length 0 k hk (fun j hj => by rw [Nat.zero_add]; exact hz j hj) (by rw [Nat.zero_add, hc]; exact h0), Nat.zero_add, hc]
theorem opensF_none {l : List ND} {op : List Int} (hz : ∀ j, j < op.length → openF l op j = 0) : opensF l op = 0 := by
  unfold opensF
  exact firstF_none _ _ _ (fun j hj => by rw [Nat.zero_add]; exact hz j hj)
theorem restF_hit {l : List ND} {op : List Int} {c : Int} (h : opensF l op = c) (h0 : ¬ c = 0) : restF l op = c := by unfold restF; rw [h, if_neg h0]
theorem restF_many {l : List ND} {op : List Int} (h : opensF l op = 0) (h7 : 7 < op.length) : restF l op = 2 := by unfold restF; rw [if_pos h, if_pos h7]

theorem inW_none {l : List ND} (h : treeF l = 0) : inW (wayU (upF l) l.length) (-1) = true := by
  have G := (treeF_ways h).good
  have := ixF_found (wayU (upF l) l.length) (-1) 0 G.ne (fun j hj => absurd hj (Nat.not_lt_zero _)) G.hd
  unfold inW; rw [this]; exact decide_eq_true G.ne

theorem restF_end {l : List ND} {op : List Int} (ht : treeF l = 0) (h : opensF l op = 0) (h7 : ¬ 7 < op.length) : restF l op = if inW (wayU (upF l) l.length) (aheadI op op.length) = true then 0 else 1 := by
  unfold restF
  rw [if_pos h, if_neg h7]
  by_cases h0 : 0 < op.length
  · by_cases e : inW (wayU (upF l) l.length) (aheadI op op.length) = true
    · rw [if_neg (by rw [e]; simp), if_pos e]
    · rw [if_pos ⟨h0, by simpa using e⟩, if_neg e]
  · have e : aheadI op op.length = -1 := by unfold aheadI; rw [if_pos (by omega)]
    rw [if_neg (by omega), e, inW_none ht, if_pos rfl]

set_option maxHeartbeats 800000 in
theorem containsI_any (a : Option Addr) (c : Nat) (l : List Int) (x : Int) (w : World) (ha : IAt w a l) (hl : (l.length : Int) ≤ 1048576) :
    Calls Tryz.prog 98 #[.slice a l.length c, .int .i64 x] w fun e w' => e = .returned (.bool (inW l x)) ∧ w' = w := by
  have K := Hid.mk' (indexI_any a c l x w ha hl)
  have E : Hid (decide (ixI l x ≥ 0) = inW l x) := Hid.mk' (by
    unfold ixI inW
    by_cases h : ixF l x < l.length
    · rw [if_pos h, decide_eq_true h]; exact decide_eq_true (by omega)
    · rw [if_neg h, decide_eq_false h]; rfl)
  clear ha
  generalize ixI l x = y at *
  go_enter Tryz.func98, Tryz.ntmps98
  go_wp2_with fail
  refine K.out.mono ?_
  rintro e w1 ⟨rfl, hw⟩
  obtain rfl := hw.symm
  clear K
  go_wp2
  go_ret
  exact ⟨by rw [← E.out]; rfl, rfl⟩

set_option maxHeartbeats 3200000 in
theorem openFault_any (w0 : World) (base g : Nat) (l : List ND) (pa : Nat → Option Addr) (ca : Nat → Nat) (vn vw : Value) (p : Option Addr) (d : Nat) (op : List Int) (w : World) (h : TT w0 base g l pa ca l.length vn vw w) (ht : treeF l = 0) (hp : IAt w p op) (ho : (op.length : Int) ≤ 1048576) :
    Calls Tryz.prog 70 #[.pointer (some ⟨g, 0, none⟩), .slice p op.length d] w fun e w' => e = .returned (.int .i64 (restF l op)) ∧ Below w.heap.size w w' := by
  have h60 := treeF_len ht
  have HT := Hid.mk' h
  have HP := Hid.mk' hp
  have H0 := Hid.mk' ht
  have G := (treeF_ways ht).good
  have gle := G.le
  have gne := G.ne
  obtain ⟨an, cn, ev, _⟩ := own_len h.on
  subst ev
  obtain ⟨aw, cw, ev, _⟩ := own_len h.ow
  subst ev
  clear h hp ht G
  go_enter Tryz.func70, Tryz.ntmps70
  go_wp2
  go_loopw [5, 10] (fun x i wr => ∃ k : Nat, k ≤ op.length ∧ i = .int .i64 k ∧ x = .int .i64 (aheadI op k) ∧ (∀ j, j < k → openF l op j = 0) ∧ Below w.heap.size w wr) (fun _ i _ => op.length - (intOf i).toNat)
  case atStart => exact ⟨0, Nat.zero_le _, rfl, rfl, fun j h => absurd h (Nat.not_lt_zero _), Below.refl _ _⟩
  case round =>
    obtain ⟨k, hk, rfl, rfl, hz, hbl⟩ := hrel
    have HZ := Hid.mk' hz
    have HB := Hid.mk' hbl
    have HT2 := Hid.mk' (HT.out.below hbl)
    obtain ⟨t0, t1, t2⟩ := cells2 HT2.out.box
    by_cases hlt : k < op.length
    · have ci : (k : Int) < (op.length : Int) := by omega
      rcases HP.out.below hbl with ha | ⟨b1, o1, rfl, s1, hc1⟩
      · exact absurd hlt (by rw [ha]; exact Nat.not_lt_zero _)
      have x0 := hc1 k hlt
      have KH := hasPlace_any g an l.length cn (wv op k) wr t0
      clear hbl hc1 hz
      by_cases hr : 0 ≤ wv op k ∧ wv op k < (l.length : Int)
      rotate_left
      · have E : Hid (restF l op = 3) := Hid.mk' (restF_hit (opensF_hit hlt HZ.out (openF_out hr) (by decide)) (by decide))
        rw [show (decide (wv op k ≥ 0) && decide (wv op k < (l.length : Int))) = false by simp; omega] at KH
        have KH := Hid.mk' KH
        generalize wv op k = x at *
        clear hr
        go_wp2_with fail
        refine KH.out.mono ?_
        rintro e w2 ⟨rfl, hw⟩
        obtain rfl := hw.symm
        go_wp2
        go_ret
        exact ⟨by rw [E.out]; rfl, HB.out⟩
      rw [show (decide (wv op k ≥ 0) && decide (wv op k < (l.length : Int))) = true by simp; omega] at KH
      obtain ⟨m, hm⟩ : ∃ m : Nat, wv op k = (m : Int) := ⟨(wv op k).toNat, by omega⟩
      have hml : m < l.length := by omega
      have mi_ : (m : Int) < (l.length : Int) := by omega
      obtain ⟨nb, cap, ev, _, nl, hnode⟩ := HT2.out.node (by omega)
      cases ev
      obtain ⟨d0, d1, d2, d3, d4⟩ := hnode m hml
      obtain ⟨p9, n9, c9, hV⟩ := mkV_slice (ndK l m) l pa ca m
      rw [hV] at d2
      have hkd : (decide (mkK (ndK l m) = 1) && !voidB (mkS (ndK l m))) = holdB (ndK l m) := hold_mk (mark_kind (one_mark (treeF_ones H0.out m hml)))
      have HM := Hid.mk' hm
      have F1 : Hid (¬ ((ndK l m).up = aheadI op k ∧ holdB (ndK l m) = true) → restF l op = 1) := Hid.mk' (fun hn => restF_hit (opensF_hit hlt HZ.out (openF_no HM.out hml hn) (by decide)) (by decide))
      have F2 : Hid ((ndK l m).up = aheadI op k → holdB (ndK l m) = true → openF l op k = 0) := Hid.mk' (fun a b => openF_yes HM.out hml a b)
      have AS : Hid (aheadI op (k + 1) = (m : Int)) := Hid.mk' (by rw [aheadI_succ]; exact HM.out)
      rw [hm] at KH x0
      have KH := Hid.mk' KH
      have KM : Hid (∀ w', Calls Tryz.prog 97 #[.agg #[.int .i64 (mkK (ndK l m)), .string (mkS (ndK l m)), .slice p9 n9 c9]] w' fun e w'' => e = .returned (.bool (holdB (ndK l m))) ∧ Below w'.heap.size w' w'') := fun w' => by
        have := mayHold_any (mkK (ndK l m)) (mkS (ndK l m)) (.slice p9 n9 c9) w'
        rw [hkd] at this
        exact this
      clear hr hm hnode hV hkd
      generalize hup : (ndK l m).up = up at *
      generalize hah : aheadI op k = ah at *
      generalize hhd : holdB (ndK l m) = hd at *
      by_cases e1 : up = ah
      rotate_left
      · have e2 : (up != ah) = true := by simp [e1]
        have E : Hid (restF l op = 1) := Hid.mk' (F1.out (fun h => e1 h.1))
        clear e1 F1 F2 hup hah hhd
        go_wp2_with fail
        refine KH.out.mono ?_
        rintro e w2 ⟨rfl, hw⟩
        obtain rfl := hw.symm
        go_wp2_with (first | go_big_skip)
        go_ret
        exact ⟨by rw [E.out]; rfl, HB.out⟩
      have e2 : (up != ah) = false := by simp [e1]
      cases hd with
      | false =>
        have E : Hid (restF l op = 1) := Hid.mk' (F1.out (fun h => absurd h.2 (by simp)))
        clear e1 F1 F2 hup hah hhd
        go_wp2_with fail
        refine KH.out.mono ?_
        rintro e w2 ⟨rfl, hw⟩
        obtain rfl := hw.symm
        go_wp2_with (first | go_big_skip | fail)
        refine (KM.out _).mono ?_
        rintro e w3 ⟨rfl, hb⟩
        have HB := Hid.mk' (HB.out.trans (hb.mono HB.out.size))
        clear hb
        go_wp2_with (first | go_big_skip)
        go_ret
        exact ⟨by rw [E.out]; rfl, HB.out⟩
      | true =>
        have E : Hid (openF l op k = 0) := Hid.mk' (F2.out e1 rfl)
        clear e1 F1 F2 hup hah hhd
        go_wp2_with fail
        refine KH.out.mono ?_
        rintro e w2 ⟨rfl, hw⟩
        obtain rfl := hw.symm
        go_wp2_with (first | go_big_skip | fail)
        refine (KM.out _).mono ?_
        rintro e w3 ⟨rfl, hb⟩
        have HB := Hid.mk' (HB.out.trans (hb.mono HB.out.size))
        clear hb
        go_wp2_with (first | go_big_skip)
        go_roundw
        case rel => exact ⟨k + 1, by omega, by go_num, by rw [AS.out], fun j hj => by
          by_cases h : j = k
          · subst h; exact E.out
          · exact HZ.out j (by omega), HB.out⟩
        case measure => simp [intOf]; omega
    · have ci : ¬ (k : Int) < (op.length : Int) := by omega
      have e : k = op.length := by omega
      subst e
      have OZ := opensF_none HZ.out
      clear hz
      by_cases h7 : 7 < op.length
      · have E : Hid (restF l op = 2) := Hid.mk' (restF_many OZ h7)
        have h7' : (op.length : Int) > 7 := by omega
        clear OZ hbl
        go_wp2
        go_ret
        exact ⟨by rw [E.out]; rfl, HB.out⟩
      · have h7' : ¬ (op.length : Int) > 7 := by omega
        have EE := Hid.mk' (restF_end H0.out OZ h7)
        obtain ⟨bw, cap, ev, w1_, w2_, w3_, hIA⟩ := own_iat HT2.out.ow gne
        cases ev
        have KC := Hid.mk' (containsI_any _ cw _ (aheadI op op.length) wr hIA (by omega))
        clear OZ hbl hIA w1_ w3_
        generalize hah : aheadI op op.length = ah at *
        generalize hin : inW (wayU (upF l) l.length) ah = iw at *
        go_wp2_with fail
        refine KC.out.mono ?_
        rintro e w2 ⟨rfl, hw⟩
        obtain rfl := hw.symm
        clear KC hin hah
        cases iw with
        | true =>
          go_wp2
          go_ret
          exact ⟨by rw [EE.out]; rfl, HB.out⟩
        | false =>
          go_wp2
          go_ret
          exact ⟨by rw [EE.out]; rfl, HB.out⟩

set_option maxHeartbeats 1600000 in
theorem implBF_any (s : BS) (a p : Option Addr) (c d : Nat) (w : World) (ha : SAt w a p s) (hl : (s.nd.length : Int) + nssz s.nd + s.op.length ≤ 1048576) :
    Calls Tryz.prog 40 #[.agg #[.slice a s.nd.length c, .slice p s.op.length d, .bool s.lg]] w fun e w' => e = .returned (.int .i64 (bldF s)) ∧ Below w.heap.size w w' := by
  have N0 := below_new w (.cells #[.slice a s.nd.length c, .slice p s.op.length d, .bool s.lg] 33)
  have KF := Hid.mk' (treeOf_any a c s.nd _ (ha.1.below N0) (by omega))
  have RB := Hid.mk' (row3 w 33 (.slice a s.nd.length c) (.slice p s.op.length d) (.bool s.lg))
  have HN := Hid.mk' N0
  have HP := Hid.mk' (ha.2.below N0)
  clear ha N0
  generalize hW : w.alloc (.cells #[.slice a s.nd.length c, .slice p s.op.length d, .bool s.lg] 33) = W at *
  obtain ⟨x0, x1, x2, x3⟩ := cells3 RB.out
  go_enter Tryz.func40, Tryz.ntmps40
  go_wp2_with fail
  clear hW
  refine KF.out.mono ?_
  rintro e w1 (⟨h0, rfl, hb⟩ | ⟨h0, pa, ca, g, vn, vw, rfl, hT⟩)
  · have E : Hid (bldF s = treeF s.nd) := Hid.mk' (by unfold bldF; rw [if_neg h0])
    have HB := Hid.mk' (HN.out.trans (hb.mono HN.out.size))
    clear hb KF x0 x1 x2 x3
    go_wp2
    go_ret
    exact ⟨by rw [E.out]; rfl, HB.out.alloc HB.out.size _⟩
  · obtain ⟨an, cn, ev, _⟩ := own_len hT.on
    subst ev
    obtain ⟨aw, cw, ev, _⟩ := own_len hT.ow
    subst ev
    have N2 := below_new w1 (.cells #[.slice an s.nd.length cn, .slice aw (wayU (upF s.nd) s.nd.length).length cw] 110)
    have HT2 := Hid.mk' (hT.rebox N2 (Nat.le_refl _) (rowp2 w1 110 (.slice an s.nd.length cn) (.slice aw (wayU (upF s.nd) s.nd.length).length cw)))
    have hb := hT.bl.trans (N2.mono hT.bl.size)
    have HB := Hid.mk' (HN.out.trans (hb.mono HN.out.size))
    have H1 := Hid.mk' (rowB RB.out hb)
    have HP := Hid.mk' (HP.out.below hb)
    have H0 := Hid.mk' h0
    clear hT N2 KF hb x0 x1 x2 x3 h0
    generalize hW2 : w1.alloc (.cells #[.slice an s.nd.length cn, .slice aw (wayU (upF s.nd) s.nd.length).length cw] 110) = W2 at *
    obtain ⟨x0, x1, x2, x3⟩ := cells3 H1.out
    have KO := Hid.mk' (openFault_any W W.heap.size w1.heap.size s.nd pa ca _ _ p d s.op W2 HT2.out H0.out HP.out (by omega))
    have E0 : Hid (bldF s = if s.lg = true ∧ (0 < s.nd.length ∨ 0 < s.op.length) then 1 else restF s.nd s.op) := Hid.mk' (by unfold bldF; rw [if_pos H0.out])
    by_cases hbad : s.lg = true ∧ (0 < s.nd.length ∨ 0 < s.op.length)
    · have E : Hid (bldF s = 1) := Hid.mk' (by rw [E0.out, if_pos hbad])
      obtain ⟨hlg, hor⟩ := hbad
      rw [hlg] at x2
      clear hlg
      by_cases hn : 0 < s.nd.length
      · have hn' : decide (0 < s.nd.length) = true := decide_eq_true hn
        clear hn hor
        go_wp2_with (first | go_big_skip)
        clear hW2
        go_ret
        exact ⟨by rw [E.out]; rfl, HB.out⟩
      · have ho' : decide (0 < s.op.length) = true := decide_eq_true (by omega)
        have hn' : decide (0 < s.nd.length) = false := decide_eq_false hn
        clear hn hor
        go_wp2_with (first | go_big_skip)
        clear hW2
        go_ret
        exact ⟨by rw [E.out]; rfl, HB.out⟩
    · have E : Hid (bldF s = restF s.nd s.op) := Hid.mk' (by rw [E0.out, if_neg hbad])
      cases hlg : s.lg with
      | false =>
        rw [hlg] at x2
        clear hlg hbad
        go_wp2_with (first | go_big_skip | fail)
        clear hW2
        refine KO.out.mono ?_
        rintro e w3 ⟨rfl, hb⟩
        have HB := Hid.mk' (HB.out.trans (hb.mono HB.out.size))
        clear hb KO
        go_wp2
        go_ret
        exact ⟨by rw [E.out]; rfl, HB.out⟩
      | true =>
        have hn' : decide (0 < s.nd.length) = false := decide_eq_false fun h => hbad ⟨hlg, .inl h⟩
        have ho' : decide (0 < s.op.length) = false := decide_eq_false fun h => hbad ⟨hlg, .inr h⟩
        rw [hlg] at x2
        clear hlg hbad
        go_wp2_with (first | go_big_skip | fail)
        clear hW2
        refine KO.out.mono ?_
        rintro e w3 ⟨rfl, hb⟩
        have HB := Hid.mk' (HB.out.trans (hb.mono HB.out.size))
        clear hb KO
        go_wp2
        go_ret
        exact ⟨by rw [E.out]; rfl, HB.out⟩

set_option maxHeartbeats 800000 in
theorem l7Top_any (p : Option Addr) (d : Nat) (op : List Int) (w : World) (hp : IAt w p op) (ho : (op.length : Int) ≤ 1048576) :
    Calls Tryz.prog 58 #[.slice p op.length d] w fun e w' => e = .returned (.int .i64 (aheadI op op.length)) ∧ w' = w := by
  by_cases h0 : op.length = 0
  · have E : Hid (aheadI op op.length = -1) := Hid.mk' (by unfold aheadI; rw [if_pos h0])
    have h0' : (op.length : Int) = 0 := by omega
    go_enter Tryz.func58, Tryz.ntmps58
    go_wp2
    go_ret
    exact ⟨by rw [E.out]; rfl, rfl⟩
  · rcases hp with ha | ⟨b1, o1, rfl, s1, hc1⟩
    · exact absurd (by rw [ha]; rfl) h0
    obtain ⟨m, hm⟩ : ∃ m, op.length = m + 1 := ⟨op.length - 1, by omega⟩
    have E : Hid (aheadI op op.length = wv op m) := Hid.mk' (by rw [hm, aheadI_succ])
    have x0 := hc1 m (by omega)
    have h0' : ((op.length : Int) == 0) = false := by simpa using (show ¬ (op.length : Int) = 0 by omega)
    have hm' : (op.length : Int) - 1 = (m : Int) := by omega
    have hlt : (m : Int) < (op.length : Int) := by omega
    clear hc1 hm h0
    go_enter Tryz.func58, Tryz.ntmps58
    go_wp2
    go_ret
    exact ⟨by rw [E.out]; rfl, rfl⟩

set_option maxHeartbeats 3200000 in
theorem l7Opened_any (s : BS) (g : Nat) (a p : Option Addr) (c d : Nat) (w : World) (hr : w.rowIs g 33 3 (r3 (.slice a s.nd.length c) (.slice p s.op.length d) (.bool s.lg))) (ha : SAt w a p s) (hl : (s.nd.length : Int) + nssz s.nd + s.op.length ≤ 1048576) :
    Calls Tryz.prog 56 #[.pointer (some ⟨g, 0, none⟩)] w fun e w' => e = .returned (.int .i64 (opensF s.nd s.op)) ∧ w' = w := by
  have HA := Hid.mk' ha
  obtain ⟨x0, x1, x2, x3⟩ := cells3 hr
  have KV : Hid (∀ (t : ByteArray) (w' : World), Calls Tryz.prog 85 #[.string t] w' fun e w'' => e = .returned (.bool (voidB t)) ∧ w'' = w') := fun t w' => l6Void_any t w'
  clear ha hr
  go_enter Tryz.func56, Tryz.ntmps56
  go_wp2
  go_loop [3, 4] (fun x i => ∃ k : Nat, k ≤ s.op.length ∧ i = .int .i64 k ∧ x = .int .i64 (aheadI s.op k) ∧ (∀ j, j < k → openF s.nd s.op j = 0)) (fun _ i => s.op.length - (intOf i).toNat)
  case atStart => exact ⟨0, Nat.zero_le _, rfl, rfl, fun j h => absurd h (Nat.not_lt_zero _)⟩
  case round =>
    obtain ⟨k, hk, rfl, rfl, hz⟩ := hrel
    have HZ := Hid.mk' hz
    by_cases hlt : k < s.op.length
    · have ci : (k : Int) < (s.op.length : Int) := by omega
      rcases HA.out.2 with hn | ⟨b1, o1, rfl, s1, hc1⟩
      · exact absurd hlt (by rw [hn]; exact Nat.not_lt_zero _)
      have u0 := hc1 k hlt
      have KI := l1In_any (wv s.op k) 0 ((s.nd.length : Int) - 1) w
      clear hc1 hz
      by_cases hr : 0 ≤ wv s.op k ∧ wv s.op k < (s.nd.length : Int)
      rotate_left
      · have E : Hid (opensF s.nd s.op = 3) := Hid.mk' (opensF_hit hlt HZ.out (openF_out hr) (by decide))
        rw [show (decide (0 ≤ wv s.op k) && decide (wv s.op k ≤ (s.nd.length : Int) - 1)) = false by simp; omega] at KI
        have KI := Hid.mk' KI
        generalize wv s.op k = x at *
        clear hr
        go_wp2_with fail
        refine KI.out.mono ?_
        rintro e w2 ⟨rfl, hw⟩
        obtain rfl := hw.symm
        go_wp2
        go_ret
        exact ⟨by rw [E.out]; rfl, rfl⟩
      rw [show (decide (0 ≤ wv s.op k) && decide (wv s.op k ≤ (s.nd.length : Int) - 1)) = true by simp; omega] at KI
      obtain ⟨m, hm⟩ : ∃ m : Nat, wv s.op k = (m : Int) := ⟨(wv s.op k).toNat, by omega⟩
      have hml : m < s.nd.length := by omega
      have mi_ : (m : Int) < (s.nd.length : Int) := by omega
      rcases HA.out.1 with hn | ⟨nb, o, rfl, nl, hnode⟩
      · exact absurd hml (by rw [hn]; exact Nat.not_lt_zero _)
      obtain ⟨d0, d1, _, _⟩ := hnode m hml
      have HM := Hid.mk' hm
      have F1 : Hid (¬ ((ndK s.nd m).up = aheadI s.op k ∧ holdB (ndK s.nd m) = true) → opensF s.nd s.op = 1) := Hid.mk' (fun hn => opensF_hit hlt HZ.out (openF_no HM.out hml hn) (by decide))
      have F2 : Hid ((ndK s.nd m).up = aheadI s.op k → holdB (ndK s.nd m) = true → openF s.nd s.op k = 0) := Hid.mk' (fun a b => openF_yes HM.out hml a b)
      have AS : Hid (aheadI s.op (k + 1) = (m : Int)) := Hid.mk' (by rw [aheadI_succ]; exact HM.out)
      have HD : Hid (holdB (ndK s.nd m) = (!((ndK s.nd m).tg.toList == []) && !voidB (ndK s.nd m).tg)) := Hid.mk' rfl
      have KT := Hid.mk' (KV.out (ndK s.nd m).tg w)
      rw [hm] at KI u0
      have KI := Hid.mk' KI
      clear hr hm hnode
      generalize hup : (ndK s.nd m).up = up at *
      generalize hah : aheadI s.op k = ah at *
      generalize htg : (ndK s.nd m).tg = tg at *
      by_cases e1 : up = ah
      rotate_left
      · have e2 : (up != ah) = true := by simp [e1]
        have E : Hid (opensF s.nd s.op = 1) := Hid.mk' (F1.out (fun h => e1 h.1))
        clear e1 F1 F2 hup hah htg
        go_wp2_with fail
        refine KI.out.mono ?_
        rintro e w2 ⟨rfl, hw⟩
        obtain rfl := hw.symm
        go_wp2_with (first | go_big_skip)
        go_ret
        exact ⟨by rw [E.out]; rfl, rfl⟩
      have e2 : (up != ah) = false := by simp [e1]
      cases h3 : (tg.toList == []) with
      | true =>
        have E : Hid (opensF s.nd s.op = 1) := Hid.mk' (F1.out (fun h => absurd h.2 (by rw [HD.out, h3]; simp)))
        clear e1 F1 F2 hup hah htg HD
        go_wp2_with fail
        refine KI.out.mono ?_
        rintro e w2 ⟨rfl, hw⟩
        obtain rfl := hw.symm
        go_wp2_with (first | go_big_skip)
        go_ret
        exact ⟨by rw [E.out]; rfl, rfl⟩
      | false =>
        cases h4 : voidB tg with
        | true =>
          rw [h4] at KT
          have E : Hid (opensF s.nd s.op = 1) := Hid.mk' (F1.out (fun h => absurd h.2 (by rw [HD.out, h4]; simp)))
          clear e1 F1 F2 hup hah htg HD h4
          go_wp2_with fail
          refine KI.out.mono ?_
          rintro e w2 ⟨rfl, hw⟩
          obtain rfl := hw.symm
          go_wp2_with (first | go_big_skip | (go_at_call 85; refine KT.out.mono ?_; rintro e w9 ⟨rfl, hw9⟩; obtain rfl := hw9.symm))
          go_ret
          exact ⟨by rw [E.out]; rfl, rfl⟩
        | false =>
          rw [h4] at KT
          have E : Hid (openF s.nd s.op k = 0) := Hid.mk' (F2.out e1 (by rw [HD.out, h3, h4]; rfl))
          clear e1 F1 F2 hup hah htg HD h4
          go_wp2_with fail
          refine KI.out.mono ?_
          rintro e w2 ⟨rfl, hw⟩
          obtain rfl := hw.symm
          go_wp2_with (first | go_big_skip | (go_at_call 85; refine KT.out.mono ?_; rintro e w9 ⟨rfl, hw9⟩; obtain rfl := hw9.symm))
          go_round
          case rel => exact ⟨k + 1, by omega, by go_num, by rw [AS.out], fun j hj => by
            by_cases h : j = k
            · subst h; exact E.out
            · exact HZ.out j (by omega)⟩
          case measure => simp [intOf]; omega
    · have ci : ¬ (k : Int) < (s.op.length : Int) := by omega
      have e : k = s.op.length := by omega
      subst e
      have E : Hid (opensF s.nd s.op = 0) := Hid.mk' (opensF_none HZ.out)
      clear hz
      go_wp2
      go_ret
      exact ⟨by rw [E.out]; rfl, rfl⟩

end Go.Proofs.YtpcpnfpnkkjkcaaGreat

/- The model's BuildFault, and the law on it. -/
namespace Go.Proofs.YtpcpnfpnkkjkcaaGreat
open Go.RowKit
set_option linter.unusedVariables false
set_option linter.unusedSimpArgs false

set_option maxHeartbeats 3200000 in
theorem l7Fault_any (s : BS) (g : Nat) (a p : Option Addr) (c d : Nat) (w : World) (hr : w.rowIs g 33 3 (r3 (.slice a s.nd.length c) (.slice p s.op.length d) (.bool s.lg))) (ha : SAt w a p s) (hl : (s.nd.length : Int) + nssz s.nd + s.op.length ≤ 1048576) :
    Calls Tryz.prog 33 #[.pointer (some ⟨g, 0, none⟩)] w fun e w' => e = .returned (.int .i64 (bldF s)) ∧ Below w.heap.size w w' := by
  have KF := l6Fault_any a c s.nd w ha.1 (by omega)
  have HR := Hid.mk' hr
  have HA := Hid.mk' ha
  obtain ⟨x0, x1, x2, x3⟩ := cells3 hr
  clear ha hr
  by_cases h0 : treeF s.nd = 0
  rotate_left
  · have KF := Hid.mk' KF
    have E : Hid (bldF s = treeF s.nd) := Hid.mk' (by unfold bldF; rw [if_neg h0])
    generalize treeF s.nd = tf at *
    go_enter Tryz.func33, Tryz.ntmps33
    go_wp2_with fail
    refine KF.out.mono ?_
    rintro e w1 ⟨rfl, hb⟩
    have HB := Hid.mk' hb
    clear hb KF x0 x1 x2 x3
    go_wp2
    go_ret
    exact ⟨by rw [E.out]; rfl, HB.out⟩
  rw [h0] at KF
  have KF := Hid.mk' KF
  have H0 := Hid.mk' h0
  have E0 : Hid (bldF s = if s.lg = true ∧ (0 < s.nd.length ∨ 0 < s.op.length) then 1 else restF s.nd s.op) := Hid.mk' (by unfold bldF; rw [if_pos H0.out])
  clear h0
  go_enter Tryz.func33, Tryz.ntmps33
  go_wp2_with fail
  refine KF.out.mono ?_
  rintro e w1 ⟨rfl, hb⟩
  have HB := Hid.mk' hb
  have HR := Hid.mk' (rowB HR.out hb)
  have HA := Hid.mk' (HA.out.below hb)
  clear hb KF x0 x1 x2 x3
  obtain ⟨x0, x1, x2, x3⟩ := cells3 HR.out
  have KO := l7Opened_any s g a p c d w1 HR.out HA.out hl
  by_cases hbad : s.lg = true ∧ (0 < s.nd.length ∨ 0 < s.op.length)
  · have E : Hid (bldF s = 1) := Hid.mk' (by rw [E0.out, if_pos hbad])
    obtain ⟨hlg, hor⟩ := hbad
    rw [hlg] at x2
    clear hlg KO
    by_cases hn : 0 < s.nd.length
    · have hn' : decide (0 < s.nd.length) = true := decide_eq_true hn
      clear hn hor
      go_wp2_with (first | go_big_skip)
      go_ret
      exact ⟨by rw [E.out]; rfl, HB.out⟩
    · have ho' : decide (0 < s.op.length) = true := decide_eq_true (by omega)
      have hn' : decide (0 < s.nd.length) = false := decide_eq_false hn
      clear hn hor
      go_wp2_with (first | go_big_skip)
      go_ret
      exact ⟨by rw [E.out]; rfl, HB.out⟩
  have E1 : Hid (bldF s = restF s.nd s.op) := Hid.mk' (by rw [E0.out, if_neg hbad])
  have KT : Hid (∀ w', Below w1.heap.size w1 w' → Calls Tryz.prog 58 #[.slice p s.op.length d] w' fun e w'' => e = .returned (.int .i64 (aheadI s.op s.op.length)) ∧ w'' = w') := fun w' hb => l7Top_any p d s.op w' (HA.out.2.below hb) (by omega)
  have KI : Hid (∀ w', Below w1.heap.size w1 w' → Calls Tryz.prog 57 #[.slice a s.nd.length c, .int .i64 ((s.nd.length : Int) - 1), .int .i64 (aheadI s.op s.op.length)] w' fun e w'' => e = .returned (.bool (inW (wayU (upF s.nd) s.nd.length) (aheadI s.op s.op.length))) ∧ w'' = w') := fun w' hb => l6In_any a c s.nd s.nd.length (aheadI s.op s.op.length) w' (HA.out.1.below hb) (Nat.le_refl _) (treeF_ways H0.out) (by omega)
  have F9 : Hid (bldF s = restF s.nd s.op) := E1
  have lgc : (s.lg = false) ∨ (s.lg = true ∧ decide (0 < s.nd.length) = false ∧ decide (0 < s.op.length) = false) := by
    cases hlg : s.lg with
    | false => exact .inl rfl
    | true => exact .inr ⟨rfl, decide_eq_false fun h => hbad ⟨hlg, .inl h⟩, decide_eq_false fun h => hbad ⟨hlg, .inr h⟩⟩
  clear hbad E0 E1
  by_cases ho : opensF s.nd s.op = 0
  rotate_left
  · have E : Hid (bldF s = opensF s.nd s.op) := Hid.mk' (by rw [F9.out]; exact restF_hit rfl ho)
    have KO := Hid.mk' KO
    generalize opensF s.nd s.op = oc at *
    rcases lgc with hlg | ⟨hlg, hn', ho'⟩
    all_goals
      rw [hlg] at x2
      clear hlg
      go_wp2_with (first | go_big_skip | fail)
      refine KO.out.mono ?_
      rintro e w2 ⟨rfl, hw⟩
      obtain rfl := hw.symm
      go_wp2
      go_ret
      exact ⟨by rw [E.out]; rfl, HB.out⟩
  have HO := Hid.mk' ho
  rw [ho] at KO
  have KO := Hid.mk' KO
  clear ho
  by_cases h7 : 7 < s.op.length
  · have E : Hid (bldF s = 2) := Hid.mk' (by rw [F9.out]; exact restF_many HO.out h7)
    have h7' : (s.op.length : Int) > 7 := by omega
    clear h7
    rcases lgc with hlg | ⟨hlg, hn', ho'⟩
    all_goals
      rw [hlg] at x2
      clear hlg
      go_wp2_with (first | go_big_skip | fail)
      refine KO.out.mono ?_
      rintro e w2 ⟨rfl, hw⟩
      obtain rfl := hw.symm
      go_wp2
      go_ret
      exact ⟨by rw [E.out]; rfl, HB.out⟩
  have RE := Hid.mk' (restF_end H0.out HO.out h7)
  have h7' : ¬ (s.op.length : Int) > 7 := by omega
  clear h7
  by_cases hz : 0 < s.op.length
  · have hz' : decide (0 < s.op.length) = true := decide_eq_true hz
    have hlg : s.lg = false := by
      rcases lgc with hlg | ⟨_, _, ho'⟩
      · exact hlg
      · rw [ho'] at hz'; cases hz'
    rw [hlg] at x2
    clear hlg lgc hz
    cases hi : inW (wayU (upF s.nd) s.nd.length) (aheadI s.op s.op.length) with
    | true =>
      rw [hi] at KI RE
      have E : Hid (bldF s = 0) := Hid.mk' (by rw [F9.out, RE.out]; rfl)
      clear hi
      generalize aheadI s.op s.op.length = ah at *
      go_wp2_with (first | go_big_skip | fail)
      refine KO.out.mono ?_
      rintro e w2 ⟨rfl, hw⟩
      obtain rfl := hw.symm
      go_wp2_with fail
      go_quiet (first | (go_at_call 58; refine Calls.quiet_of_same (KT.out _ ?_); first | exact Below.refl _ _ | exact (Below.refl _ _).drew | exact below_drewN (Below.refl _ _) _) | (go_at_call 57; refine Calls.quiet_of_same (KI.out _ ?_); first | exact Below.refl _ _ | exact (Below.refl _ _).drew | exact below_drewN (Below.refl _ _) _))
      go_wp2
      go_ret
      exact ⟨by rw [E.out]; rfl, below_drewN HB.out _⟩
    | false =>
      rw [hi] at KI RE
      have E : Hid (bldF s = 1) := Hid.mk' (by rw [F9.out, RE.out]; rfl)
      clear hi
      generalize aheadI s.op s.op.length = ah at *
      go_wp2_with (first | go_big_skip | fail)
      refine KO.out.mono ?_
      rintro e w2 ⟨rfl, hw⟩
      obtain rfl := hw.symm
      go_wp2_with fail
      go_quiet (first | (go_at_call 58; refine Calls.quiet_of_same (KT.out _ ?_); first | exact Below.refl _ _ | exact (Below.refl _ _).drew | exact below_drewN (Below.refl _ _) _) | (go_at_call 57; refine Calls.quiet_of_same (KI.out _ ?_); first | exact Below.refl _ _ | exact (Below.refl _ _).drew | exact below_drewN (Below.refl _ _) _))
      go_wp2
      go_ret
      exact ⟨by rw [E.out]; rfl, below_drewN HB.out _⟩
  · have e9 : aheadI s.op s.op.length = -1 := by unfold aheadI; rw [if_pos (by omega)]
    have E : Hid (bldF s = 0) := Hid.mk' (by rw [F9.out, RE.out, e9, inW_none H0.out]; rfl)
    have hz' : decide (0 < s.op.length) = false := decide_eq_false hz
    clear hz KI KT e9
    rcases lgc with hlg | ⟨hlg, hn', ho'⟩
    all_goals
      rw [hlg] at x2
      clear hlg
      go_wp2_with (first | go_big_skip | fail)
      refine KO.out.mono ?_
      rintro e w2 ⟨rfl, hw⟩
      obtain rfl := hw.symm
      go_wp2_with fail
      go_quiet (fail)
      go_wp2
      go_ret
      exact ⟨by rw [E.out]; rfl, below_drewN HB.out _⟩

end Go.Proofs.YtpcpnfpnkkjkcaaGreat

/- Attributes in memory of one's own (as they are wanted where no tag is read). -/
namespace Go.Proofs.YtpcpnfpnkkjkcaaGreat
open Go.RowKit
set_option linter.unusedVariables false
set_option linter.unusedSimpArgs false

theorem own_of {w w' : World} {base base' : Nat} {e : TypeId} {size : Nat} {v : Value} {n : Nat} {xs : List Value} (h : w.ownsRow base e size v n xs) (hb : base' ≤ base) (hk : ∀ k, v.ownBlock = some k → base ≤ k → w'.heap[k]? = w.heap[k]?) : w'.ownsRow base' e size v n xs := by
  refine ⟨h.1, ?_⟩
  rcases h.2 with h0 | ⟨g, cap, cur, rfl, hg, hh, r⟩
  · exact .inl h0
  · exact .inr ⟨g, cap, cur, rfl, Nat.le_trans hb hg, by rw [hk g rfl hg]; exact hh, r⟩

/-- The cells of attributes: two each. -/
def acs : List AT → List Value → List Value
  | a :: l, u :: us => .string a.nm :: u :: acs l us
  | _, _ => []
theorem acs_len : ∀ (l : List AT) (us : List Value), us.length = l.length → (acs l us).length = l.length * 2
  | [], us, h => by cases us <;> rfl
  | a :: l, [], h => by simp at h
  | a :: l, u :: us, h => by
    simp only [acs, List.length_cons]
    rw [acs_len l us (by simpa using h)]; omega
theorem acs_snoc : ∀ (l : List AT) (us : List Value) (a : AT) (u : Value), us.length = l.length → acs (l ++ [a]) (us ++ [u]) = acs l us ++ [.string a.nm, u]
  | [], [], a, u, _ => rfl
  | [], u :: us, _, _, h => by simp at h
  | b :: l, [], _, _, h => by simp at h
  | b :: l, v :: us, a, u, h => by
    simp only [List.cons_append, acs]
    rw [acs_snoc l us a u (by simpa using h)]
theorem acs_get : ∀ (l : List AT) (us : List Value) (k : Nat), us.length = l.length → k < l.length → (acs l us)[k * 2]? = some (.string (atK l k).nm) ∧ (acs l us)[k * 2 + 1]? = some (us.getD k undef)
  | [], us, k, h, hk => absurd hk (Nat.not_lt_zero _)
  | a :: l, [], k, h, hk => by simp at h
  | a :: l, u :: us, 0, h, hk => by simp [acs, atK]
  | a :: l, u :: us, k + 1, h, hk => by
    have := acs_get l us k (by simpa using h) (by simpa using hk)
    rw [show (k + 1) * 2 = k * 2 + 1 + 1 from by omega]
    simpa [acs, atK] using this

/-- Attributes of one's own: a row of them, and a row of bytes for each value; no two rows are one. -/
structure OA (lo : Nat) (w : World) (v : Value) (l : List AT) (us : List Value) : Prop where
  len : us.length = l.length
  row : w.ownsRow lo 106 2 v l.length (acs l us)
  val : ∀ j, j < l.length → OB w (us.getD j undef) (atK l j).vl
  vlo : ∀ j, j < l.length → ∀ k, (us.getD j undef).ownBlock = some k → lo ≤ k
  ap : ∀ i j, i < j → j < l.length → Ap (us.getD i undef) (us.getD j undef)
  av : ∀ j, j < l.length → Ap v (us.getD j undef)

theorem OA.nil (lo : Nat) (w : World) : OA lo w (.slice none 0 0) [] [] :=
  ⟨rfl, ⟨rfl, .inl ⟨rfl, rfl⟩⟩, fun j h => absurd h (Nat.not_lt_zero _), fun j h => absurd h (Nat.not_lt_zero _), fun i j _ h => absurd h (Nat.not_lt_zero _), fun j h => absurd h (Nat.not_lt_zero _)⟩

/-- Blocks of one's own that stay. -/
theorem OA.keep {lo lo' : Nat} {w w' : World} {v : Value} {l : List AT} {us : List Value} (h : OA lo w v l us) (hlo : lo' ≤ lo) (hk : ∀ k, lo ≤ k → k < w.heap.size → w'.heap[k]? = w.heap[k]?) : OA lo' w' v l us :=
  ⟨h.len, own_of h.row hlo (fun k e hl => hk k hl (h.row.lt k e).2), fun j hj => (h.val j hj).keep (fun k e hl => hk k (h.vlo j hj k e) hl), fun j hj k e => Nat.le_trans hlo (h.vlo j hj k e), h.ap, h.av⟩
theorem OA.below {lo : Nat} {w w' : World} {v : Value} {l : List AT} {us : List Value} (h : OA lo w v l us) (hb : Below w.heap.size w w') : OA lo w' v l us := h.keep (Nat.le_refl _) (fun k _ hl => hb.block k hl)

theorem own_bat {w : World} {base : Nat} {u : Value} {l : List Int} (h : w.ownsRow base 5 1 u l.length (bcs l)) : ∃ p c, u = .slice p l.length c ∧ BAt w p l := (OB.of_own h).1.len

theorem OA.at {lo : Nat} {w : World} {v : Value} {l : List AT} {us : List Value} (h : OA lo w v l us) : ∃ a c, v = .slice a l.length c ∧ AAt w a l := by
  rcases h.row.2 with ⟨rfl, h0⟩ | ⟨g, cap, cur, rfl, hg, hh, hc, hm, hs, ht⟩
  · exact ⟨none, 0, by rw [h0], .inl (List.eq_nil_of_length_eq_zero h0)⟩
  · refine ⟨_, _, rfl, .inr ⟨g, 0, rfl, ?_, fun k hk => ?_⟩⟩
    · exact Nat.lt_of_not_le fun hn => by rw [Array.getElem?_eq_none hn] at hh; cases hh
    · obtain ⟨h1, h2⟩ := acs_get l us k h.len hk
      obtain ⟨p, c, e, hb⟩ := (h.val k hk).len
      rw [← ht] at h1 h2
      rw [List.getElem?_take_of_lt (by omega)] at h1 h2
      have q : ∀ i, w.cell? ⟨g, i, none⟩ = cur[i]? := fun i => Lib.cell_of_heap hh i
      refine ⟨by rw [q, Nat.zero_add, ← h1]; simp, p, c, ?_, hb⟩
      rw [q, Nat.zero_add, ← e, ← h2]; simp

/-- One more, put behind. -/
theorem OA.app {lo : Nat} {w w1 w2 : World} {v v' u : Value} {l : List AT} {us : List Value} {a : AT} (h : OA lo w v l us) (hw : Below w.heap.size w w1) (hu : OB w1 u a.vl) (hlo : lo ≤ w.heap.size) (hn : ∀ k, u.ownBlock = some k → w.heap.size ≤ k)
    (ho : w2.ownsRow lo 106 2 v' (l.length + 1) (acs l us ++ [.string a.nm, u])) (hg : w1.grownBy w2 v.ownBlock) (hv : v'.ownBlock = v.ownBlock ∨ v'.ownBlock = some w1.heap.size) : OA lo w2 v' (l ++ [a]) (us ++ [u]) := by
  have g1 : ∀ j, j < l.length → (us ++ [u]).getD j undef = us.getD j undef := fun j hj => by simp [List.getD_eq_getElem?_getD, List.getElem?_append_left (h.len.symm ▸ hj)]
  have g2 : (us ++ [u]).getD l.length undef = u := by simp [List.getD_eq_getElem?_getD, ← h.len]
  have a1 : ∀ j, j < l.length → atK (l ++ [a]) j = atK l j := fun j hj => by simp [atK, List.getD_eq_getElem?_getD, List.getElem?_append_left hj]
  have a2 : atK (l ++ [a]) l.length = a := by simp [atK, List.getD_eq_getElem?_getD]
  have old : ∀ j, j < l.length → ∀ k, (us.getD j undef).ownBlock = some k → k < w.heap.size := fun j hj k e => (h.val j hj).lt k e
  have vold : ∀ k, v.ownBlock = some k → k < w.heap.size := fun k e => (h.row.lt k e).2
  have ult : ∀ k, u.ownBlock = some k → k < w1.heap.size := fun k e => hu.lt k e
  have sz := hw.size
  have hvl : ∀ j, j < l.length → OB w2 (us.getD j undef) (atK l j).vl := fun j hj =>
    (h.val j hj).keep (fun k e _ => by
      rw [hg.block k (by have := old j hj k e; omega) (fun e2 => h.av j hj k e2.symm e), hw.block k (old j hj k e)])
  have huv : OB w2 u a.vl :=
    hu.keep (fun k e _ => hg.block k (ult k e) (fun e2 => by have := vold k e2.symm; have := hn k e; omega))
  refine ⟨by simp [h.len], ?_, fun j hj => ?_, fun j hj k e => ?_, fun i j hij hj => ?_, fun j hj => ?_⟩
  · rw [acs_snoc _ _ _ _ h.len, List.length_append]; exact ho
  · rw [List.length_append] at hj
    by_cases e : j = l.length
    · subst e; rw [g2, a2]; exact huv
    · rw [g1 j (by simp at hj; omega), a1 j (by simp at hj; omega)]; exact hvl j (by simp at hj; omega)
  · rw [List.length_append] at hj
    by_cases ej : j = l.length
    · subst ej; rw [g2] at e; have := hn k e; omega
    · rw [g1 j (by simp at hj; omega)] at e; exact h.vlo j (by simp at hj; omega) k e
  · rw [List.length_append] at hj
    rw [g1 i (by simp at hj; omega)]
    by_cases e : j = l.length
    · subst e; rw [g2]; intro k e1 e2; have := old i hij k e1; have := hn k e2; omega
    · rw [g1 j (by simp at hj; omega)]; exact h.ap i j hij (by simp at hj; omega)
  · rw [List.length_append] at hj
    intro k e1 e2
    rcases hv with hv | hv
    · rw [hv] at e1
      by_cases e : j = l.length
      · subst e; rw [g2] at e2; have := vold k e1; have := hn k e2; omega
      · rw [g1 j (by simp at hj; omega)] at e2; exact h.av j (by simp at hj; omega) k e1 e2
    · rw [hv] at e1
      cases e1
      by_cases e : j = l.length
      · subst e; rw [g2] at e2; have := ult _ e2; omega
      · rw [g1 j (by simp at hj; omega)] at e2; have := old j (by simp at hj; omega) _ e2; omega

theorem one_attr (w : World) (t : TypeId) (x y : Value) (g : Nat) (hg : w.heap.size = g) : ∀ j u, ([x, y] : List Value)[j]? = some u → (w.alloc (.cells #[x, y] t)).cell? ((⟨g, 0, none⟩ : Addr).add j) = some u := by
  intro j u h
  subst hg
  match j, h with
  | 0, h => cases h; simp [Addr.add]
  | 1, h => cases h; simp [Addr.add]
  | j + 2, h => simp at h

end Go.Proofs.YtpcpnfpnkkjkcaaGreat

/- Nodes in memory of one's own, that grow. Each block that is owned has a label: 0 the row of nodes, 1 what is open, 2 none of these, 2 j + 3 the attributes of the j-th, 2 j + 4 its text. -/
namespace Go.Proofs.YtpcpnfpnkkjkcaaGreat
open Go.RowKit
set_option linter.unusedVariables false
set_option linter.unusedSimpArgs false

/-- The cells of k nodes: four each. -/
def ncs (l : List ND) (va vt : Nat → Value) : Nat → List Value
  | 0 => []
  | k + 1 => ncs l va vt k ++ [.int .i64 (ndK l k).up, .string (ndK l k).tg, va k, vt k]

theorem ncs_len (l : List ND) (va vt : Nat → Value) : ∀ k, (ncs l va vt k).length = k * 4
  | 0 => rfl
  | k + 1 => by simp [ncs, ncs_len l va vt k]; omega

theorem ncs_get (l : List ND) (va vt : Nat → Value) : ∀ (k j i : Nat), j < k → i < 4 → (ncs l va vt k)[j * 4 + i]? = ([.int .i64 (ndK l j).up, .string (ndK l j).tg, va j, vt j] : List Value)[i]?
  | 0, _, _, h, _ => absurd h (Nat.not_lt_zero _)
  | k + 1, j, i, h, hi => by
    unfold ncs
    by_cases e : j = k
    · subst e
      rw [List.getElem?_append_right (by rw [ncs_len]; omega), ncs_len, show j * 4 + i - j * 4 = i by omega]
    · rw [List.getElem?_append_left (by rw [ncs_len]; omega)]
      exact ncs_get l va vt k j i (by omega) hi

theorem ncs_congr {l l' : List ND} {va va' vt vt' : Nat → Value} : ∀ {k : Nat}, (∀ j, j < k → (ndK l j).up = (ndK l' j).up ∧ (ndK l j).tg = (ndK l' j).tg ∧ va j = va' j ∧ vt j = vt' j) → ncs l va vt k = ncs l' va' vt' k
  | 0, _ => rfl
  | k + 1, h => by
    obtain ⟨h1, h2, h3, h4⟩ := h k (by omega)
    unfold ncs
    rw [ncs_congr (k := k) (fun j hj => h j (by omega)), h1, h2, h3, h4]

/-- A cell of nodes is turned. -/
theorem ncs_set {l l' : List ND} {va vt vt' : Nat → Value} {n i : Nat} {x : Value} : ∀ {k : Nat}, n < k → i < 4 → (∀ j, j < k → ¬ j = n → (ndK l j).up = (ndK l' j).up ∧ (ndK l j).tg = (ndK l' j).tg ∧ vt j = vt' j) →
    ([.int .i64 (ndK l n).up, .string (ndK l n).tg, va n, vt n] : List Value).set i x = [.int .i64 (ndK l' n).up, .string (ndK l' n).tg, va n, vt' n] → (ncs l va vt k).set (n * 4 + i) x = ncs l' va vt' k
  | 0, h, _, _, _ => absurd h (Nat.not_lt_zero _)
  | k + 1, h, hi, ho, hs => by
    unfold ncs
    by_cases e : n = k
    · subst e
      rw [List.set_append_right _ _ (by rw [ncs_len]; omega), ncs_len, show n * 4 + i - n * 4 = i by omega, hs]
      congr 1
      exact ncs_congr (fun j hj => by obtain ⟨h1, h2, h3⟩ := ho j (by omega) (by omega); exact ⟨h1, h2, rfl, h3⟩)
    · rw [List.set_append_left _ _ (by rw [ncs_len]; omega), ncs_set (k := k) (by omega) hi (fun j hj => ho j (by omega)) hs]
      obtain ⟨h1, h2, h3⟩ := ho k (by omega) (fun e' => e e'.symm)
      rw [h1, h2, h3]

theorem ndK_left {l m : List ND} {j : Nat} (h : j < l.length) : ndK (l ++ m) j = ndK l j := by simp [ndK, List.getD_eq_getElem?_getD, List.getElem?_append_left h]
theorem ndK_end {l : List ND} {t : ND} : ndK (l ++ [t]) l.length = t := by simp [ndK, List.getD_eq_getElem?_getD]
theorem ndK_set {l : List ND} {i j : Nat} {t : ND} (h : i < l.length) : ndK (l.set i t) j = if j = i then t else ndK l j := by
  unfold ndK
  by_cases e : j = i
  · subst e; simp [List.getD_eq_getElem?_getD, h]
  · rw [if_neg e]; simp [List.getD_eq_getElem?_getD, List.getElem?_set, Ne.symm e]

/-- Of the blocks that are there those of which p speaks are as they were. -/
structure Kp (p : Nat → Prop) (w w' : World) : Prop where
  os : w'.os = w.os
  tape : w'.tape = w.tape
  output : w'.output = w.output
  size : w.heap.size ≤ w'.heap.size
  block : ∀ k, k < w.heap.size → p k → w'.heap[k]? = w.heap[k]?

theorem Kp.refl (p : Nat → Prop) (w : World) : Kp p w w := ⟨rfl, rfl, rfl, Nat.le_refl _, fun _ _ _ => rfl⟩
theorem Kp.trans {p : Nat → Prop} {a b c : World} (h : Kp p a b) (k : Kp p b c) : Kp p a c :=
  ⟨k.os.trans h.os, k.tape.trans h.tape, k.output.trans h.output, Nat.le_trans h.size k.size, fun i hi hp => (k.block i (Nat.lt_of_lt_of_le hi h.size) hp).trans (h.block i hi hp)⟩
theorem Kp.mono {p q : Nat → Prop} {a b : World} (h : Kp p a b) (hq : ∀ k, q k → p k) : Kp q a b := ⟨h.os, h.tape, h.output, h.size, fun k hk e => h.block k hk (hq k e)⟩
theorem Kp.of_below {p : Nat → Prop} {a b : World} (h : Below a.heap.size a b) : Kp p a b := ⟨h.os, h.tape, h.output, h.size, fun k hk _ => h.block k hk⟩
theorem Kp.of_kept {p : Nat → Prop} {lo hi : Nat} {a b : World} (h : KeptIn lo hi a b) (hp : ∀ k, p k → k < lo ∨ hi ≤ k) : Kp p a b := ⟨h.os, h.tape, h.output, h.size, fun k hk e => h.block k hk (hp k e)⟩
theorem Kp.of_turned {p : Nat → Prop} {v : Value} {a b : World} (h : Turned v a b) (hp : ∀ k, p k → v.ownBlock ≠ some k) : Kp p a b := ⟨h.os, h.tape, h.output, h.size, fun k hk e => h.block k hk (hp k e)⟩
theorem Kp.of_grown {p : Nat → Prop} {r : Option Nat} {a b : World} (h : a.grownBy b r) (hp : ∀ k, p k → some k ≠ r) : Kp p a b := ⟨h.os, h.tape, h.output, h.size, fun k hk e => h.block k hk (hp k e)⟩
theorem Kp.setCell {p : Nat → Prop} {a w : World} (h : Kp p a w) {q : Addr} (hq : ¬ p q.block) (u : Value) : Kp p a (w.setCell q u) :=
  h.trans ⟨rfl, rfl, rfl, by simp [World.setCell], fun k hk e => Below.heap_setCell _ _ _ _ (fun e' => hq (e' ▸ e))⟩
theorem Kp.alloc {p : Nat → Prop} {a w : World} (h : Kp p a w) (o : Obj) : Kp p a (w.alloc o) := h.trans (Kp.of_below (below_new w o))
theorem Kp.keptIn {p : Nat → Prop} {lo hi : Nat} {a b : World} (h : Kp p a b) (hp : ∀ k, k < lo ∨ hi ≤ k → p k) : KeptIn lo hi a b := ⟨h.os, h.tape, h.output, h.size, fun k hk e => h.block k hk (hp k e)⟩

/-- Attributes stay where their blocks do. -/
theorem OA.keepOf {lo : Nat} {w w' : World} {v : Value} {l : List AT} {us : List Value} (h : OA lo w v l us) (hv : ∀ k, v.ownBlock = some k → k < w.heap.size → w'.heap[k]? = w.heap[k]?) (hu : ∀ i, i < l.length → ∀ k, (us.getD i undef).ownBlock = some k → k < w.heap.size → w'.heap[k]? = w.heap[k]?) : OA lo w' v l us :=
  ⟨h.len, own_of h.row (Nat.le_refl _) (fun k e _ => hv k e (h.row.lt k e).2), fun j hj => (h.val j hj).keep (fun k e hl => hu j hj k e hl), h.vlo, h.ap, h.av⟩

theorem OA.down {lo lo' : Nat} {w : World} {v : Value} {l : List AT} {us : List Value} (h : OA lo w v l us) (hl : lo' ≤ lo) : OA lo' w v l us := h.keep hl (fun _ _ _ => rfl)

structure NS (τ : Nat → Nat) (lo : Nat) (w : World) (v : Value) (l : List ND) (va vt : Nat → Value) (us : Nat → List Value) : Prop where
  row : w.ownsRow lo 104 4 v l.length (ncs l va vt l.length)
  att : ∀ j, j < l.length → OA lo w (va j) (ndK l j).at_ (us j)
  txt : ∀ j, j < l.length → w.ownsRow lo 5 1 (vt j) (ndK l j).tx.length (bcs (ndK l j).tx)
  rl : ∀ k, v.ownBlock = some k → τ k = 0
  al : ∀ j, j < l.length → ∀ k, (va j).ownBlock = some k → τ k = 2 * j + 3
  ul : ∀ j, j < l.length → ∀ i, i < (ndK l j).at_.length → ∀ k, ((us j).getD i undef).ownBlock = some k → τ k = 2 * j + 3
  tl : ∀ j, j < l.length → ∀ k, (vt j).ownBlock = some k → τ k = 2 * j + 4

theorem NS.keep {τ : Nat → Nat} {lo : Nat} {w w' : World} {v : Value} {l : List ND} {va vt : Nat → Value} {us : Nat → List Value} (h : NS τ lo w v l va vt us) (hk : Kp (fun k => τ k = 0 ∨ 3 ≤ τ k) w w') : NS τ lo w' v l va vt us := by
  refine ⟨own_of h.row (Nat.le_refl _) (fun k e _ => hk.block k (h.row.lt k e).2 (.inl (h.rl k e))), fun j hj => (h.att j hj).keepOf (fun k e hl => hk.block k hl (.inr (by have := h.al j hj k e; omega))) (fun i hi k e hl => hk.block k hl (.inr (by have := h.ul j hj i hi k e; omega))), fun j hj => own_of (h.txt j hj) (Nat.le_refl _) (fun k e _ => hk.block k ((h.txt j hj).lt k e).2 (.inr (by have := h.tl j hj k e; omega))), h.rl, h.al, h.ul, h.tl⟩

theorem NS.below {τ : Nat → Nat} {lo : Nat} {w w' : World} {v : Value} {l : List ND} {va vt : Nat → Value} {us : Nat → List Value} (h : NS τ lo w v l va vt us) (hb : Below w.heap.size w w') : NS τ lo w' v l va vt us := h.keep (Kp.of_below hb)

theorem NS.relabel {τ τ' : Nat → Nat} {lo : Nat} {w : World} {v : Value} {l : List ND} {va vt : Nat → Value} {us : Nat → List Value} (h : NS τ lo w v l va vt us) (ht : ∀ k, lo ≤ k → k < w.heap.size → τ' k = τ k) : NS τ' lo w v l va vt us := by
  refine ⟨h.row, h.att, h.txt, fun k e => ?_, fun j hj k e => ?_, fun j hj i hi k e => ?_, fun j hj k e => ?_⟩
  · have := h.row.lt k e; rw [ht k this.1 this.2]; exact h.rl k e
  · have := (h.att j hj).row.lt k e; rw [ht k this.1 this.2]; exact h.al j hj k e
  · rw [ht k ((h.att j hj).vlo i hi k e) (((h.att j hj).val i hi).lt k e)]; exact h.ul j hj i hi k e
  · have := (h.txt j hj).lt k e; rw [ht k this.1 this.2]; exact h.tl j hj k e

theorem NS.nil (τ : Nat → Nat) (lo : Nat) (w : World) (va vt : Nat → Value) (us : Nat → List Value) : NS τ lo w (.slice none 0 0) [] va vt us :=
  ⟨⟨rfl, .inl ⟨rfl, rfl⟩⟩, fun j h => absurd h (Nat.not_lt_zero _), fun j h => absurd h (Nat.not_lt_zero _), fun k e => by simp [Value.ownBlock] at e, fun j h => absurd h (Nat.not_lt_zero _), fun j h => absurd h (Nat.not_lt_zero _), fun j h => absurd h (Nat.not_lt_zero _)⟩

/-- One more, put behind. -/
theorem NS.app {τ : Nat → Nat} {lo lo1 : Nat} {w w1 w2 : World} {v v' : Value} {l : List ND} {va vt : Nat → Value} {us : Nat → List Value} (h : NS τ lo w v l va vt us) (hw : Below w.heap.size w w1) {t : ND} {a x : Value} {u : List Value} (ha : OA lo1 w1 a t.at_ u) (h1 : w.heap.size ≤ lo1) (hx : w1.ownsRow lo1 5 1 x t.tx.length (bcs t.tx))
    (hap : ∀ k, x.ownBlock = some k → a.ownBlock ≠ some k ∧ ∀ i, i < t.at_.length → (u.getD i undef).ownBlock ≠ some k) (hlo : lo ≤ w.heap.size)
    (ho : w2.ownsRow lo 104 4 v' (l.length + 1) (ncs l va vt l.length ++ [.int .i64 t.up, .string t.tg, a, x])) (hg : w1.grownBy w2 v.ownBlock) (hv : v'.ownBlock = v.ownBlock ∨ v'.ownBlock = some w1.heap.size) :
    ∃ τ' va' vt' us', NS τ' lo w2 v' (l ++ [t]) va' vt' us' ∧ ∀ k, k < w.heap.size → τ' k = τ k := by
  classical
  have sz := hw.size
  have vold : ∀ k, v.ownBlock = some k → k < w.heap.size := fun k e => (h.row.lt k e).2
  have nu : ∀ k, w.heap.size ≤ k → some k ≠ v.ownBlock := fun k hk e => by have := vold k e.symm; omega
  have K1 : Kp (fun k => k < w.heap.size ∧ some k ≠ v.ownBlock) w w2 := ((Kp.of_below hw).trans (Kp.of_grown hg (fun k e => e.2)))
  have K2 : Kp (fun k => w.heap.size ≤ k) w1 w2 := Kp.of_grown hg (fun k e => nu k e)
  let τ' : Nat → Nat := fun k => if k < w.heap.size then τ k else if x.ownBlock = some k then 2 * l.length + 4 else if k < w1.heap.size then 2 * l.length + 3 else 0
  have t1 : ∀ k, k < w.heap.size → τ' k = τ k := fun k hk => by show (if _ then _ else _) = _; rw [if_pos hk]
  refine ⟨τ', fun j => if j = l.length then a else va j, fun j => if j = l.length then x else vt j, fun j => if j = l.length then u else us j, ⟨?_, fun j hj => ?_, fun j hj => ?_, fun k e => ?_, fun j hj k e => ?_, fun j hj i hi k e => ?_, fun j hj k e => ?_⟩, t1⟩
  · have e1 : (l ++ [t]).length = l.length + 1 := by simp
    have e2 : ncs (l ++ [t]) (fun j => if j = l.length then a else va j) (fun j => if j = l.length then x else vt j) (l.length + 1) = ncs l va vt l.length ++ [.int .i64 t.up, .string t.tg, a, x] := by
      have e3 : ncs (l ++ [t]) (fun j => if j = l.length then a else va j) (fun j => if j = l.length then x else vt j) l.length = ncs l va vt l.length := ncs_congr (fun j hj => by
        have hne : ¬ j = l.length := by omega
        exact ⟨by rw [ndK_left hj], by rw [ndK_left hj], if_neg hne, if_neg hne⟩)
      show ncs (l ++ [t]) _ _ l.length ++ [.int .i64 (ndK (l ++ [t]) l.length).up, .string (ndK (l ++ [t]) l.length).tg, (if l.length = l.length then a else va l.length), (if l.length = l.length then x else vt l.length)] = _
      rw [e3, ndK_end, if_pos rfl, if_pos rfl]
    rw [e1, e2]; exact ho
  · simp only [List.length_append, List.length_cons, List.length_nil] at hj
    by_cases e : j = l.length
    · subst e
      simp only [if_true]
      rw [ndK_end]
      exact (ha.keepOf (fun k e hl => K2.block k hl (by have := (ha.row.lt k e).1; omega)) (fun i hi k e hl => K2.block k hl (by have := ha.vlo i hi k e; omega))).down (by omega)
    · have hj' : j < l.length := by omega
      simp only [e, if_false]
      rw [ndK_left hj']
      have hh := h.att j hj'
      refine hh.keepOf (fun k e hl => K1.block k hl ⟨hl, fun e2 => ?_⟩) (fun i hi k e hl => K1.block k hl ⟨hl, fun e2 => ?_⟩)
      · have := h.rl k e2.symm; have := h.al j hj' k e; omega
      · have := h.rl k e2.symm; have := h.ul j hj' i hi k e; omega
  · simp only [List.length_append, List.length_cons, List.length_nil] at hj
    by_cases e : j = l.length
    · subst e
      simp only [if_true]
      rw [ndK_end]
      exact own_of hx (by omega) (fun k e hl => K2.block k (hx.lt k e).2 (by omega))
    · have hj' : j < l.length := by omega
      simp only [e, if_false]
      rw [ndK_left hj']
      exact own_of (h.txt j hj') (Nat.le_refl _) (fun k e _ => by
        have hl := ((h.txt j hj').lt k e).2
        exact K1.block k hl ⟨hl, fun e2 => by have := h.rl k e2.symm; have := h.tl j hj' k e; omega⟩)
  · rcases hv with hv | hv
    · rw [hv] at e; rw [t1 k (vold k e)]; exact h.rl k e
    · rw [hv] at e
      cases e
      show (if _ then _ else _) = _
      rw [if_neg (by omega), if_neg (fun e3 => by have := (hx.lt _ e3).2; omega), if_neg (by omega)]
  · simp only [List.length_append, List.length_cons, List.length_nil] at hj
    by_cases ej : j = l.length
    · subst ej
      simp only [if_true] at e
      have := ha.row.lt k e
      show (if _ then _ else _) = _
      rw [if_neg (by omega), if_neg (fun e3 => (hap k e3).1 e), if_pos this.2]
    · have hj' : j < l.length := by omega
      simp only [ej, if_false] at e
      rw [t1 k ((h.att j hj').row.lt k e).2]; exact h.al j hj' k e
  · simp only [List.length_append, List.length_cons, List.length_nil] at hj
    by_cases ej : j = l.length
    · subst ej
      simp only [if_true] at e
      rw [ndK_end] at hi
      have q1 := ha.vlo i hi k e
      have q2 := (ha.val i hi).lt k e
      show (if _ then _ else _) = _
      rw [if_neg (by omega), if_neg (fun e3 => (hap k e3).2 i hi e), if_pos q2]
    · have hj' : j < l.length := by omega
      simp only [ej, if_false] at e
      rw [ndK_left hj'] at hi
      rw [t1 k (((h.att j hj').val i hi).lt k e)]; exact h.ul j hj' i hi k e
  · simp only [List.length_append, List.length_cons, List.length_nil] at hj
    by_cases ej : j = l.length
    · subst ej
      simp only [if_true] at e
      have := hx.lt k e
      show (if _ then _ else _) = _
      rw [if_neg (by omega), if_pos e]
    · have hj' : j < l.length := by omega
      simp only [ej, if_false] at e
      rw [t1 k ((h.txt j hj').lt k e).2]; exact h.tl j hj' k e

/-- A cell of a row of one's own is turned. -/
theorem own_cellN {w : World} {base g n cap size : Nat} {e : TypeId} {xs : List Value} (h : w.ownsRow base e size (.slice (some ⟨g, 0, none⟩) n cap) n xs) (j : Nat) (hj : j < n * size) (x : Value) : (w.setCell ⟨g, j, none⟩ x).ownsRow base e size (.slice (some ⟨g, 0, none⟩) n cap) n (xs.set j x) := by
  refine ⟨by rw [List.length_set]; exact h.1, .inr ?_⟩
  rcases h.2 with ⟨h0, _⟩ | ⟨g', cap', cur, hv, hg, hh, hc, hm, hs, ht⟩
  · cases h0
  · cases hv
    refine ⟨g, cap, cur.setIfInBounds j x, rfl, hg, ?_, hc, hm, by simpa using hs, ?_⟩
    · simp [World.setCell, Array.getElem?_modify, hh]
    · rw [← ht]
      simp [List.take_set]

/-- A byte behind the text of the n-th. -/
def setTx (l : List ND) (n : Nat) (b : Int) : List ND := l.set n ⟨(ndK l n).up, (ndK l n).tg, (ndK l n).at_, (ndK l n).tx ++ [b]⟩

theorem NS.grow {τ : Nat → Nat} {lo g cap n : Nat} {w w1 : World} {x' : Value} {l : List ND} {va vt : Nat → Value} {us : Nat → List Value} (h : NS τ lo w (.slice (some ⟨g, 0, none⟩) l.length cap) l va vt us) (hn : n < l.length) (b : Int) (hlo : lo ≤ w.heap.size)
    (ho : w1.ownsRow lo 5 1 x' ((ndK l n).tx.length + 1) (bcs ((ndK l n).tx ++ [b]))) (hg : w.grownBy w1 (vt n).ownBlock) (hx : x'.ownBlock = (vt n).ownBlock ∨ x'.ownBlock = some w.heap.size) :
    ∃ τ' vt', NS τ' lo (w1.setCell ⟨g, n * 4 + 3, none⟩ x') (.slice (some ⟨g, 0, none⟩) l.length cap) (setTx l n b) va vt' us ∧ ∀ k, k < w.heap.size → τ' k = τ k := by
  have hgl : g < w.heap.size ∧ lo ≤ g := by have := h.row.lt g rfl; omega
  have g0 : τ g = 0 := h.rl g rfl
  have tn : ∀ k, (vt n).ownBlock = some k → τ k = 2 * n + 4 ∧ k < w.heap.size := fun k e => ⟨h.tl n hn k e, ((h.txt n hn).lt k e).2⟩
  have KR : Kp (fun k => ¬ τ k = 2 * n + 4) w w1 := Kp.of_grown hg (fun k e e2 => e (tn k e2.symm).1)
  have KK : Kp (fun k => ¬ τ k = 2 * n + 4 ∧ ¬ τ k = 0) w (w1.setCell ⟨g, n * 4 + 3, none⟩ x') := (KR.mono (fun k e => e.1)).setCell (q := ⟨g, n * 4 + 3, none⟩) (fun e => e.2 g0) x'
  have len : (setTx l n b).length = l.length := by unfold setTx; rw [List.length_set]
  have nd : ∀ j, ndK (setTx l n b) j = if j = n then ⟨(ndK l n).up, (ndK l n).tg, (ndK l n).at_, (ndK l n).tx ++ [b]⟩ else ndK l j := fun j => ndK_set hn
  have natt : ∀ j, (ndK (setTx l n b) j).at_ = (ndK l j).at_ := fun j => by
    rw [nd]; by_cases e : j = n
    · subst e; rw [if_pos rfl]
    · rw [if_neg e]
  have ne : ∀ k, x'.ownBlock = some k → ¬ k = g := fun k e eg => by
    subst eg
    rcases hx with hx | hx
    · rw [hx] at e; have := (tn _ e).1; omega
    · rw [hx] at e; cases e; omega
  refine ⟨fun k => if k < w.heap.size then τ k else 2 * n + 4, fun j => if j = n then x' else vt j, ⟨?_, fun j hj => ?_, fun j hj => ?_, fun k e => ?_, fun j hj k e => ?_, fun j hj i hi k e => ?_, fun j hj k e => ?_⟩, fun k hk => if_pos hk⟩
  · have R1 : w1.ownsRow lo 104 4 (.slice (some ⟨g, 0, none⟩) l.length cap) l.length (ncs l va vt l.length) := own_of h.row (Nat.le_refl _) (fun k e _ => KR.block k (h.row.lt k e).2 (by have := h.rl k e; omega))
    have R2 := own_cellN R1 (n * 4 + 3) (by omega) x'
    rw [ncs_set (l' := setTx l n b) (vt' := fun j => if j = n then x' else vt j) hn (by omega) (fun j hj e => by rw [nd j, if_neg e, if_neg e]; exact ⟨rfl, rfl, rfl⟩) (by rw [nd n, if_pos rfl, if_pos rfl]; rfl)] at R2
    rw [len]; exact R2
  · rw [len] at hj
    rw [natt]
    exact (h.att j hj).keepOf (fun k e hl => KK.block k hl (by have := h.al j hj k e; omega)) (fun i hi k e hl => KK.block k hl (by have := h.ul j hj i hi k e; omega))
  · rw [len] at hj
    rw [nd j]
    by_cases e : j = n
    · subst e
      simp only [if_true]
      rw [List.length_append]
      exact own_of ho (Nat.le_refl _) (fun k e _ => Below.heap_setCell _ _ _ _ (fun e' => ne k e e'))
    · simp only [e, if_false]
      exact own_of (h.txt j hj) (Nat.le_refl _) (fun k e' _ => KK.block k ((h.txt j hj).lt k e').2 (by have := h.tl j hj k e'; omega))
  · have := (h.row.lt k e).2
    show (if _ then _ else _) = _
    rw [if_pos this]; exact h.rl k e
  · rw [len] at hj
    have := ((h.att j hj).row.lt k e).2
    show (if _ then _ else _) = _
    rw [if_pos this]; exact h.al j hj k e
  · rw [len] at hj
    rw [natt] at hi
    have := ((h.att j hj).val i hi).lt k e
    show (if _ then _ else _) = _
    rw [if_pos this]; exact h.ul j hj i hi k e
  · rw [len] at hj
    show (if _ then _ else _) = _
    by_cases ej : j = n
    · subst ej
      simp only [if_true] at e
      rcases hx with hx | hx
      · rw [hx] at e; rw [if_pos (tn k e).2]; exact (tn k e).1
      · rw [hx] at e; cases e; rw [if_neg (by omega)]
    · simp only [ej, if_false] at e
      rw [if_pos ((h.txt j hj).lt k e).2]; exact h.tl j hj k e

/-- They lie in memory. -/
theorem NS.at {τ : Nat → Nat} {lo : Nat} {w : World} {v : Value} {l : List ND} {va vt : Nat → Value} {us : Nat → List Value} (h : NS τ lo w v l va vt us) : ∃ a c, v = .slice a l.length c ∧ NsAt w a l := by
  by_cases h0 : 0 < l.length
  · obtain ⟨g, cap, e, h1, h2, h3, h4⟩ := own_spot h.row h0
    refine ⟨_, _, e, .inr ⟨g, 0, rfl, h2, fun k hk => ?_⟩⟩
    have c := fun i (hi : i < 4) => (h4 (k * 4 + i) (by omega)).trans (ncs_get l va vt l.length k i hk hi)
    obtain ⟨pa, ca, ea, ha⟩ := (h.att k hk).at
    obtain ⟨pt, ct, et, ht⟩ := own_bat (h.txt k hk)
    have hc : (ndK l k).at_.length ≤ ca := by
      obtain ⟨a9, c9, e9, h9⟩ := own_len (h.att k hk).row
      rw [ea] at e9; cases e9; exact h9
    simp only [Nat.zero_add]
    refine ⟨c 0 (by omega), c 1 (by omega), ⟨pa, ca, by rw [c 2 (by omega), ← ea]; rfl, hc, ha⟩, ⟨pt, ct, by rw [c 3 (by omega), ← et]; rfl, ht⟩⟩
  · obtain ⟨a, c, e, _⟩ := own_len h.row
    exact ⟨a, c, e, .inl (List.eq_nil_of_length_eq_zero (by omega))⟩

end Go.Proofs.YtpcpnfpnkkjkcaaGreat
