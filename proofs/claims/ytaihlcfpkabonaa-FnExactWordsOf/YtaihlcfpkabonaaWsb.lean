/- WordsOf in the model: a line cut at its blanks; the pieces that have bytes. -/
import Derived.Test.YtaihlcfpkabonaaWsa
import Derived.Test.YtaihlcfpkabonaaCb
import Derived.Test.YtaihlcfpkabonaaCq
import Derived.Test.YtaihlcfpkabonaaSpl
namespace Go.Proofs.Ytaihlcfpkabonaa
open Go.RowKit
set_option linter.unusedVariables false
set_option linter.unusedSimpArgs false

/-- The cells of texts. -/
def scs (l : List ByteArray) : List Value := l.map Value.string
theorem scs_snoc (l : List ByteArray) (x : ByteArray) : scs (l ++ [x]) = scs l ++ scs [x] := by simp [scs]
theorem scs_get (l : List ByteArray) (k : Nat) (h : k < l.length) : (scs l)[k]? = some (.string (sK l k)) := by
  unfold scs sK
  rw [List.getElem?_map, List.getD_eq_getElem?_getD, List.getElem?_eq_getElem h]
  rfl
theorem scs_one (x : ByteArray) : ∀ u ∈ scs [x], u.oneCell' = true := by
  intro u h
  simp [scs] at h
  subst h
  rfl
theorem sK_snoc (l : List ByteArray) (x : ByteArray) : sK (l ++ [x]) l.length = x := by simp [sK]
theorem new_cellsS (w : World) (t : TypeId) (xs : List Value) (g : Nat) (hg : w.heap.size = g) : ∀ j u, xs[j]? = some u → (w.alloc (.cells xs.toArray t)).cell? ((⟨g, 0, none⟩ : Addr).add j) = some u := by
  intro j u h
  subst hg
  rw [Addr.add_mid, Nat.zero_add]
  have := Lib.cell_of_heap (w := w.alloc (.cells xs.toArray t)) (Deep.blk_alloc_new w (.cells xs.toArray t)) j
  rw [this]
  simpa using h

theorem StAt.of_own {w : World} {base : Nat} {v : Value} {l : List ByteArray} (h : w.ownsRow base 9 1 v l.length (scs l)) : ∃ a c, v = .slice a l.length c ∧ StAt w a l := by
  obtain ⟨_, h | ⟨g, cap, cur, rfl, hb, hg, hn, hm, hs, ht⟩⟩ := h
  · obtain ⟨rfl, h0⟩ := h
    have := List.eq_nil_of_length_eq_zero h0
    subst this
    exact ⟨none, 0, rfl, .inl rfl⟩
  · refine ⟨_, _, rfl, .inr ⟨g, 0, rfl, (by
      by_cases h : g < w.heap.size
      · exact h
      · rw [Array.getElem?_eq_none (by omega)] at hg; cases hg), fun i hi => ?_⟩⟩
    have e := scs_get l i hi
    rw [← ht, List.getElem?_take, if_pos (by omega)] at e
    rw [Lib.cell_of_heap hg]
    simpa using e

theorem atC_end (s : ByteArray) (c : Nat) : atC s c s.size = true := by simp [atC]
theorem atC_byte {s : ByteArray} {c k : Nat} (h : k < s.size) : atC s c k = ((s[k]'h).toNat == c) := by
  unfold atC
  have e : s.get! k = s[k]'h := by
    unfold ByteArray.get!
    exact getElem!_pos s.data k h
  rw [e]
  simp
  omega

set_option maxRecDepth 100000 in
set_option maxHeartbeats 3200000 in
theorem l16Cut_any (s : ByteArray) (c : Nat) (w : World) (hc : c < 256) (hs : s.size ≤ 1048576) :
    Calls Try.prog 9 #[.string s, .int .u8 c] w fun e w' => ∃ v, e = .returned v ∧ w'.ownsRow w.heap.size 9 1 v (cutC s c).length (scs (cutC s c)) ∧ Below w.heap.size w w' := by
  have O0 := Hid.mk' (World.ownsRow_lit (base := w.heap.size) (e := 9) (size := 1) w #[] 0 (Nat.le_refl _) (by unfold maxLen; omega) rfl)
  have B0 := Hid.mk' (below_new w (.cells #[] 9))
  go_enter Try.func9, Try.ntmps9
  go_wp2
  go_loopw [5, 6, 7] (fun v f i wr => ∃ k : Nat, k ≤ s.size + 1 ∧ i = .int .i64 k ∧ f = .int .i64 (frC s c k) ∧ wr.ownsRow w.heap.size 9 1 v (ctC s c k).length (scs (ctC s c k)) ∧ Below w.heap.size w wr) (fun _ _ i _ => s.size + 1 - (intOf i).toNat)
  case atStart => exact ⟨0, Nat.zero_le _, rfl, rfl, O0.out, B0.out⟩
  case round =>
    obtain ⟨k, hk, rfl, rfl, hown, hbl⟩ := hrel
    have HO := Hid.mk' hown
    have HB := Hid.mk' hbl
    have hfr := frC_le s c k
    have hln := ctC_len s c k
    have hw := hbl.size
    clear hown hbl
    by_cases hlt : k ≤ s.size
    · have ci : (k : Int) ≤ (s.size : Int) := by omega
      by_cases hat : atC s c k = true
      · have E : Hid (ctC s c (k + 1) = ctC s c k ++ [s.extract (frC s c k) k]) := Hid.mk' (by
          conv => lhs; unfold ctC
          rw [if_pos hat])
        have F : Hid (frC s c (k + 1) = k + 1) := Hid.mk' (by unfold frC; rw [if_pos hat])
        have VB := below_new wr (.cells #[.string (s.extract (frC s c k) k)] 9)
        have OV := Hid.mk' (own_keep HO.out VB)
        have NC := Hid.mk' (new_cellsS wr 9 [.string (s.extract (frC s c k) k)] wr.heap.size rfl)
        have SZ : Hid (w.heap.size ≤ (wr.alloc (.cells #[.string (s.extract (frC s c k) k)] 9)).heap.size) := Hid.mk' (by have := HB.out.size; simp; omega)
        have HB := Hid.mk' (HB.out.trans (VB.mono HB.out.size))
        clear VB
        by_cases he : k = s.size
        · have ce : ((k : Int) == (s.size : Int)) = true := by simp; omega
          clear he
          go_wp2_with (at_builtin; refine wpList_append_at _ rfl (.tmp 26) (.tmp 31) 22 rfl w.heap.size 9 (.string ⟨#[]⟩) 1 16 Try.underlying22 Try.info9 rfl (by decide) _ _ _ rfl OV.out _ 1 _ (scs [s.extract (frC s c k) k]) rfl (by simp [scs]) (.inr ⟨_, rfl, NC.out⟩) (scs_one _) (by unfold maxLen; omega) (by omega) SZ.out ?_; intro v' w1 ho hgr hat')
          have O2 : Hid (w1.ownsRow w.heap.size 9 1 v' (ctC s c (k + 1)).length (scs (ctC s c (k + 1)))) := Hid.mk' (by
            rw [E.out, List.length_append, scs_snoc]
            exact ho)
          have B2 := Hid.mk' (HB.out.grown hgr SZ.out (own_lo OV.out))
          clear ho hgr hat'
          go_roundw
          case rel => exact ⟨k + 1, by omega, by go_num, by rw [F.out]; go_num, O2.out, B2.out⟩
          case measure => simp [intOf]; omega
        · have ce : ((k : Int) == (s.size : Int)) = false := by simp; omega
          have hn : k < s.size := by omega
          obtain ⟨cc, hcc⟩ : ∃ c : Nat, (s[k]'hn).toNat = c := ⟨_, rfl⟩
          have cb : ((cc : Int) == (c : Int)) = true := by
            rw [atC_byte hn, hcc] at hat
            simp at hat
            simp; omega
          go_wp2_with (at_builtin; refine wpList_append_at _ rfl (.tmp 26) (.tmp 31) 22 rfl w.heap.size 9 (.string ⟨#[]⟩) 1 16 Try.underlying22 Try.info9 rfl (by decide) _ _ _ rfl OV.out _ 1 _ (scs [s.extract (frC s c k) k]) rfl (by simp [scs]) (.inr ⟨_, rfl, NC.out⟩) (scs_one _) (by unfold maxLen; omega) (by omega) SZ.out ?_; intro v' w1 ho hgr hat')
          have O2 : Hid (w1.ownsRow w.heap.size 9 1 v' (ctC s c (k + 1)).length (scs (ctC s c (k + 1)))) := Hid.mk' (by
            rw [E.out, List.length_append, scs_snoc]
            exact ho)
          have B2 := Hid.mk' (HB.out.grown hgr SZ.out (own_lo OV.out))
          clear ho hgr hat'
          go_roundw
          case rel => exact ⟨k + 1, by omega, by go_num, by rw [F.out]; go_num, O2.out, B2.out⟩
          case measure => simp [intOf]; omega
      · have E : Hid (ctC s c (k + 1) = ctC s c k) := Hid.mk' (by
          conv => lhs; unfold ctC
          rw [if_neg hat])
        have F : Hid (frC s c (k + 1) = frC s c k) := Hid.mk' (by conv => lhs; unfold frC
                                                                  rw [if_neg hat])
        have hn : k < s.size := by
          rcases Nat.lt_or_eq_of_le hlt with h | h
          · exact h
          · exact absurd (by rw [h]; exact atC_end s c) hat
        have ce : ((k : Int) == (s.size : Int)) = false := by simp; omega
        obtain ⟨cc, hcc⟩ : ∃ c : Nat, (s[k]'hn).toNat = c := ⟨_, rfl⟩
        have cb : ((cc : Int) == (c : Int)) = false := by
          rw [atC_byte hn, hcc] at hat
          simp at hat
          simp; omega
        go_wp2
        go_roundw
        case rel => exact ⟨k + 1, by omega, by go_num, by rw [F.out], by rw [E.out]; exact HO.out, HB.out⟩
        case measure => simp [intOf]; omega
    · have ci : ¬ (k : Int) ≤ (s.size : Int) := by omega
      have e : k = s.size + 1 := by omega
      subst e
      go_wp2
      go_ret
      exact ⟨_, rfl, HO.out, HB.out⟩

theorem own_setS {w : World} {base : Nat} {e : TypeId} {size : Nat} {v : Value} {n : Nat} {xs : List Value} {p : Addr} {u : Value} (h : w.ownsRow base e size v n xs) (hn : ¬ v.ownBlock = some p.block) : (w.setCell p u).ownsRow base e size v n xs :=
  h.kept (row := some p.block) ⟨rfl, rfl, rfl, by rw [World.heap_size_setCell']; exact Nat.le_refl _, fun k hk hne => Below.heap_setCell _ _ _ _ (fun e => hne (by rw [e]))⟩ (.inr hn)
theorem rowSet1 {w : World} {g : Nat} {t : TypeId} {x y u : Value} (h : w.rowIs g t 2 (q2 x y)) : (w.setCell ⟨g, 1, none⟩ u).rowIs g t 2 (q2 x u) :=
  (h.set 1 u).congr (fun j hj => by
    rcases (show j = 0 ∨ j = 1 by omega) with rfl | rfl
    · simp [q2]
    · simp [q2])
theorem stK {w w' : World} {a : Option Addr} {l : List ByteArray} {lo hi : Nat} (h : StAt w a l) (hk : KeptIn lo hi w w') (hd : ∀ b o, a = some ⟨b, o, none⟩ → b < lo ∨ hi ≤ b) : StAt w' a l := by
  rcases h with h | ⟨b, o, e, hs, hc⟩
  · exact .inl h
  · exact .inr ⟨b, o, e, Nat.lt_of_lt_of_le hs hk.size, fun k hk' => (World.cell?_of_block (hk.block b hs (hd b o e))).trans (hc k hk')⟩
theorem grown_boxS {w w' : World} {g n : Nat} {t : TypeId} {f : Nat → Value} {row : Option Nat} (h : w.rowIs g t n f) (hg : w.grownBy w' row) (hne : ¬ some g = row) : w'.rowIs g t n f := h.of_block (hg.block _ h.lt hne)
theorem kept_grownS {lo hi : Nat} {a w w' : World} {row : Option Nat} (h : KeptIn lo hi a w) (hg : w.grownBy w' row) (hr : ∀ k, row = some k → a.heap.size ≤ k) : KeptIn lo hi a w' :=
  ⟨hg.os.trans h.os, hg.tape.trans h.tape, hg.output.trans h.output, Nat.le_trans h.size hg.size, fun i hi hne => by
    rw [hg.block i (Nat.lt_of_lt_of_le hi h.size) (fun e => by have := hr i e.symm; omega)]
    exact h.block i hi hne⟩
theorem own_drewS {w : World} {base : Nat} {e : TypeId} {size : Nat} {v : Value} {n : Nat} {xs : List Value} (h : w.ownsRow base e size v n xs) : w.drew.ownsRow base e size v n xs := h
theorem rowDrewS {w : World} {g n : Nat} {t : TypeId} {f : Nat → Value} (h : w.rowIs g t n f) : w.drew.rowIs g t n f := h
theorem KeptIn.drewS {lo hi : Nat} {a w : World} (h : KeptIn lo hi a w) : KeptIn lo hi a w.drew := ⟨h.os, h.tape, h.output, h.size, h.block⟩

/-- The pieces with bytes among the first k. -/
theorem filt_take {l : List ByteArray} {k : Nat} (h : k < l.length) : (l.take (k + 1)).filter neB = (l.take k).filter neB ++ (if neB (sK l k) then [sK l k] else []) := by
  have e : l.take (k + 1) = l.take k ++ [sK l k] := by
    rw [List.take_add_one, List.getElem?_eq_getElem h]
    simp [sK, List.getD_eq_getElem?_getD, List.getElem?_eq_getElem h]
  rw [e, List.filter_append]
  split
  · rename_i h; rw [List.filter_cons_of_pos h]; rfl
  · rename_i h; rw [List.filter_cons_of_neg h]; rfl

theorem neB_toList {x : ByteArray} : neB x = true ↔ ¬ x = ⟨#[]⟩ := by
  unfold neB
  constructor
  · intro h e; subst e; exact absurd h (by decide)
  · intro h
    cases e : x.size == 0 with
    | false => rfl
    | true => exact absurd (by cases x with | mk d => rw [Array.eq_empty_of_size_eq_zero (show d.size = 0 from beq_iff_eq.1 e)]) h

set_option maxRecDepth 100000 in
set_option maxHeartbeats 3200000 in
theorem specWO_any (s : ByteArray) (w : World) (hs : s.size ≤ 1048576) :
    Calls Try.prog 4 #[.string s] w fun e w' => ∃ a cp, e = .returned (.agg #[.int .i64 0, .slice a (wordsL s).length cp]) ∧ StAt w' a (wordsL s) ∧ Below w.heap.size w w' := by
  have R1 := Hid.mk' (rowQ2 w 24 (.int .i64 0) (.slice none 0 0))
  have B1 := Hid.mk' (below_new w (.cells #[.int .i64 0, .slice none 0 0] 24))
  generalize hW1 : w.alloc (.cells #[.int .i64 0, .slice none 0 0] 24) = W1 at *
  have hz1 : W1.heap.size = w.heap.size + 1 := by rw [← hW1]; simp
  have R2 := Hid.mk' (rowQ2 W1 24 (.int .i64 0) (.slice none 0 0))
  have B2' := below_new W1 (.cells #[.int .i64 0, .slice none 0 0] 24)
  have R1 := Hid.mk' (rowB R1.out B2')
  have B2 := Hid.mk' (B1.out.trans (B2'.mono (by omega)))
  clear B2'
  go_enter Try.func4, Try.ntmps4
  go_wp2_with fail
  refine (l16Cut_any s 32 _ (by decide) hs).mono ?_
  rintro e w1 ⟨v, rfl, ho, hb⟩
  have LA : Hid (∀ k, v.ownBlock = some k → (W1.alloc (.cells #[.int .i64 0, .slice none 0 0] 24)).heap.size ≤ k) := Hid.mk' (own_lo ho)
  obtain ⟨aw, cw, rfl, hat⟩ := StAt.of_own ho
  have AW := Hid.mk' hat
  have HB1 := Hid.mk' (B2.out.trans (hb.mono B2.out.size))
  have RB := Hid.mk' (rowB R2.out hb)
  have RA := Hid.mk' (rowB R1.out hb)
  have hG : W1.heap.size < w1.heap.size := RB.out.lt
  rw [hz1] at RB hG
  have hzz : (W1.alloc (.cells #[.int .i64 0, .slice none 0 0] 24)).heap.size = (w.heap.size + 1) + 1 := by rw [World.heap_size_alloc', hz1]
  rw [hzz] at LA
  have LN := Hid.mk' (Nat.le_trans (List.length_filter_le neB (cutC s 32)) (ctC_len s 32 (s.size + 1)))
  have LC := Hid.mk' (ctC_len s 32 (s.size + 1))
  clear ho hb hat hzz B1 B2 R1 R2 hW1
  generalize hBe : w1.heap.size = B at *
  go_wp2
  go_loopw [5] (fun i wr => ∃ k : Nat, ∃ v : Value, k ≤ (cutC s 32).length ∧ i = .int .i64 k ∧ wr.rowIs (w.heap.size + 1) 24 2 (q2 (.int .i64 0) v) ∧ wr.ownsRow B 9 1 v (((cutC s 32).take k).filter neB).length (scs (((cutC s 32).take k).filter neB)) ∧ KeptIn (w.heap.size + 1) ((w.heap.size + 1) + 1) w1 wr) (fun i _ => (cutC s 32).length - (intOf i).toNat)
  case atStart => exact ⟨0, .slice none 0 0, Nat.zero_le _, rfl, RB.out, ⟨by rfl, .inl ⟨rfl, rfl⟩⟩, KeptIn.refl _ _ _⟩
  case round =>
    obtain ⟨k, v, hk, rfl, hrow, hown, hkp⟩ := hrel
    have RW := Hid.mk' hrow
    have HO := Hid.mk' hown
    have KP := Hid.mk' hkp
    have hBw : B ≤ wr.heap.size := by have := hkp.size; omega
    clear hrow hown hkp
    by_cases hlt : k < (cutC s 32).length
    · have ci : (k : Int) < ((cutC s 32).length : Int) := by omega
      rcases AW.out with ha | ⟨b, o, rfl, hbs, hc⟩
      · exact absurd hlt (by rw [ha]; exact Nat.not_lt_zero _)
      have hbG : ¬ b = (w.heap.size + 1) := fun e => by have := LA.out b rfl; omega
      have hbG2 : ¬ (w.heap.size + 1) = b := fun e => hbG e.symm
      have h1 : wr.cell? ⟨b, o + k, none⟩ = some (.string (sK (cutC s 32) k)) := by
        rw [← hc k hlt]
        exact World.cell?_of_block (KP.out.block b hbs (by omega))
      have FT := Hid.mk' (filt_take hlt)
      have ll : ((List.take k (cutC s 32)).filter neB).length ≤ k := Nat.le_trans (List.length_filter_le _ _) (by simp; omega)
      have lc := LC.out
      have hlt2 : k < s.size + 1 := by unfold cutC at hlt; omega
      clear hc lc
      generalize hxe : sK (cutC s 32) k = x at *
      by_cases hx : neB x = true
      · rw [if_pos hx] at FT
        have hxn : x.toList.isEmpty = false := by
          rw [tlData]
          have := hx
          unfold neB at this
          cases h : x.data.toList with
          | nil => rw [show x.size = x.data.toList.length from rfl, h] at this; simp at this
          | cons a b => rfl
        have VB := below_new wr.drew (.cells #[.string x] 9)
        have O1 := Hid.mk' (own_keep (own_drewS HO.out) VB)
        have RV := Hid.mk' (rowB (rowDrewS RW.out) VB)
        have KV := Hid.mk' ((KP.out.drewS).alloc (.cells #[.string x] 9))
        have NC := Hid.mk' (new_cellsS wr.drew 9 [.string x] wr.drew.heap.size rfl)
        have SZ : Hid (B ≤ (wr.drew.alloc (.cells #[.string x] 9)).heap.size) := Hid.mk' (by rw [World.heap_size_alloc']; show B ≤ wr.heap.size + 1; omega)
        have LO := Hid.mk' (own_lo HO.out)
        have NG : Hid (¬ (some (w.heap.size + 1) : Option Nat) = v.ownBlock) := Hid.mk' (fun e => by have := LO.out (w.heap.size + 1) e.symm; omega)
        obtain ⟨c0, c1, _⟩ := cellsQ2 RW.out
        clear VB
        go_wp2_with fail
        refine wp_region_held_drew (S := fun w' => w'.cell? ⟨b, o + k, none⟩ = some (.string x)) (by kernel_rfl) (by simp [*]) (fun hHeld => ?_)
        refine wpAnyH_take (i := 0) (oi := ⟨_, _, _, _, _, _⟩) (v := ?_) rfl (by kernel_rfl) (by kernel_rfl) (by kernel_rfl) (fun _ _ _ h => h) (Or.inl ⟨by rfl, ?_⟩) (by assumption) ?_
        rotate_left
        · (intro w hSw; (try dsimp only at hSw); go_simp; (try with_reducible rfl))
        try simp only [Act.put, List.setIfInBounds_toArray, List.set_cons_zero, List.set_cons_succ]
        refine wpAnyH_take (i := 2) (oi := ⟨_, _, _, _, _, _⟩) (v := ?_) rfl (by kernel_rfl) (by kernel_rfl) (by kernel_rfl) (fun _ _ _ h => h) (Or.inl ⟨by rfl, ?_⟩) (by assumption) ?_
        rotate_left
        · (intro w hSw; (try dsimp only at hSw); go_simp; (try with_reducible rfl))
        try simp only [Act.put, List.setIfInBounds_toArray, List.set_cons_zero, List.set_cons_succ]
        refine wpAnyH_take (i := 3) (oi := ⟨_, _, _, _, _, _⟩) (v := ?_) rfl (by kernel_rfl) (by kernel_rfl) (by kernel_rfl) (fun _ _ _ h => h) (Or.inl ⟨by rfl, ?_⟩) (by assumption) ?_
        rotate_left
        · (intro w hSw; (try dsimp only at hSw); go_simp; (try with_reducible rfl))
        try simp only [Act.put, List.setIfInBounds_toArray, List.set_cons_zero, List.set_cons_succ]
        refine wpAnyH_take (i := 4) (oi := ⟨_, _, _, _, _, _⟩) (v := ?_) rfl (by kernel_rfl) (by kernel_rfl) (by kernel_rfl) (fun _ _ _ h => h) (Or.inl ⟨by rfl, ?_⟩) (by assumption) ?_
        rotate_left
        · (intro w hSw; (try dsimp only at hSw); go_simp; (try with_reducible rfl))
        try simp only [Act.put, List.setIfInBounds_toArray, List.set_cons_zero, List.set_cons_succ]
        refine wpAnyH_take (i := 5) (oi := ⟨_, _, _, _, _, _⟩) (v := ?_) rfl (by kernel_rfl) (by kernel_rfl) (by kernel_rfl) (fun _ _ _ h => h) (Or.inl ⟨by rfl, ?_⟩) (by assumption) ?_
        rotate_left
        · (intro w hSw; (try dsimp only at hSw); go_simp; (try with_reducible rfl))
        try simp only [Act.put, List.setIfInBounds_toArray, List.set_cons_zero, List.set_cons_succ]
        refine wpAnyH_ready (rs := [1, 6]) (by kernel_rfl) (by simp) ?_
        refine AllReadyH.cons (o := ⟨_, _, _, _, _, _⟩) rfl (fun K hK => ?_) (AllReadyH.cons (o := ⟨_, _, _, _, _, _⟩) rfl (fun K hK => ?_) AllReadyH.nil)
        · go_simp
          refine hK.out _ _ (by (try dsimp only); go_keep) (fun hHeld => ?_)
          clear hK K
          try simp only [Act.put, List.setIfInBounds_toArray, List.set_cons_zero, List.set_cons_succ]
          refine wpAnyH_ready (rs := [6]) (by kernel_rfl) (by simp) ?_
          refine AllReadyH.cons (o := ⟨_, _, _, _, _, _⟩) rfl (fun K hK => ?_) AllReadyH.nil
          go_simp
          refine hK.out _ _ (by (try dsimp only); go_keep) (fun hHeld => ?_)
          clear hK K
          try simp only [Act.put, List.setIfInBounds_toArray, List.set_cons_zero, List.set_cons_succ]
          refine wpAnyH_ready (rs := [7]) (by kernel_rfl) (by simp) ?_
          refine AllReadyH.cons (o := ⟨_, _, _, _, _, _⟩) rfl (fun K hK => ?_) AllReadyH.nil
          refine step_append_at rfl (.tmp 21) (.tmp 26) 22 rfl B 9 (.string ⟨#[]⟩) 1 16 Try.underlying22 Try.info9 rfl (by decide) _ _ _ rfl O1.out _ 1 _ (scs [x]) rfl (by simp [scs]) (.inr ⟨_, rfl, NC.out⟩) (scs_one _) (by unfold maxLen; omega) (by omega) SZ.out ?_
          intro v' w2 ho hgr hat
          have e4 := hgr.cell (a := ⟨b, o + k, none⟩) hHeld (fun e => by have := LO.out b e.symm; omega)
          have e3 := hgr.cell (a := ⟨(w.heap.size + 1), 1, none⟩) (cellsQ2 RV.out).2.1 NG.out
          have R3 := Hid.mk' (grown_boxS RV.out hgr NG.out)
          have ho' : w2.ownsRow B 9 1 v' ((List.take (k + 1) (cutC s 32)).filter neB).length (scs ((List.take (k + 1) (cutC s 32)).filter neB)) := by rw [FT.out, List.length_append, scs_snoc]; exact ho
          obtain ⟨av, cv, ev', _⟩ := StAt.of_own ho'
          have O3 := Hid.mk' ho'
          subst ev'
          clear ho'
          have K3 := Hid.mk' (kept_grownS KV.out hgr (fun k e => by rw [hBe]; exact LO.out k e))
          have f3 := (frzQ2 R3.out).2
          clear ho hgr hat
          refine hK.out _ _ e4 (fun hHeld => ?_)
          clear hK K
          try simp only [Act.put, List.setIfInBounds_toArray, List.set_cons_zero, List.set_cons_succ]
          refine wpAnyH_take (i := 8) (oi := ⟨_, _, _, _, _, _⟩) (v := ?_) rfl (by kernel_rfl) (by kernel_rfl) (by kernel_rfl) (fun _ _ _ h => h) (Or.inl ⟨by rfl, ?_⟩) (by assumption) ?_
          rotate_left
          · (intro w hSw; (try dsimp only at hSw); go_simp; (try with_reducible rfl))
          try simp only [Act.put, List.setIfInBounds_toArray, List.set_cons_zero, List.set_cons_succ]
          refine wpAnyH_ready (rs := [9]) (by kernel_rfl) (by simp) ?_
          refine AllReadyH.cons (o := ⟨_, _, _, _, _, _⟩) rfl (fun K hK => ?_) AllReadyH.nil
          go_simp
          refine hK.out _ _ (by refine (World.cell?_setCell_other _ _ _ _ ?_).trans e4; simp [hbG, hbG2]) (fun hHeld => ?_)
          clear hK K
          try simp only [Act.put, List.setIfInBounds_toArray, List.set_cons_zero, List.set_cons_succ]
          refine wpAnyH_done (by kernel_rfl) ?_ _
          have LO3 := own_lo O3.out
          have O4 := Hid.mk' (own_setS (p := ⟨w.heap.size + 1, 1, none⟩) (u := .slice av ((List.take (k + 1) (cutC s 32)).filter neB).length cv) O3.out (fun e => by have := LO3 _ e; simp at this; omega))
          have R4 := Hid.mk' (rowSet1 (u := .slice av ((List.take (k + 1) (cutC s 32)).filter neB).length cv) R3.out)
          have K4 := Hid.mk' (K3.out.setCell (p := ⟨w.heap.size + 1, 1, none⟩) (by simp) (by simp) (.slice av ((List.take (k + 1) (cutC s 32)).filter neB).length cv))
          clear LO3
          go_wp2
          go_roundw
          case rel => exact ⟨k + 1, _, by omega, by go_num, R4.out, O4.out, K4.out⟩
          case measure => simp [intOf]; omega
        · go_simp
          refine hK.out _ _ (by (try dsimp only); go_keep) (fun hHeld => ?_)
          clear hK K
          try simp only [Act.put, List.setIfInBounds_toArray, List.set_cons_zero, List.set_cons_succ]
          refine wpAnyH_ready (rs := [1]) (by kernel_rfl) (by simp) ?_
          refine AllReadyH.cons (o := ⟨_, _, _, _, _, _⟩) rfl (fun K hK => ?_) AllReadyH.nil
          go_simp
          refine hK.out _ _ (by (try dsimp only); go_keep) (fun hHeld => ?_)
          clear hK K
          try simp only [Act.put, List.setIfInBounds_toArray, List.set_cons_zero, List.set_cons_succ]
          refine wpAnyH_ready (rs := [7]) (by kernel_rfl) (by simp) ?_
          refine AllReadyH.cons (o := ⟨_, _, _, _, _, _⟩) rfl (fun K hK => ?_) AllReadyH.nil
          refine step_append_at rfl (.tmp 21) (.tmp 26) 22 rfl B 9 (.string ⟨#[]⟩) 1 16 Try.underlying22 Try.info9 rfl (by decide) _ _ _ rfl O1.out _ 1 _ (scs [x]) rfl (by simp [scs]) (.inr ⟨_, rfl, NC.out⟩) (scs_one _) (by unfold maxLen; omega) (by omega) SZ.out ?_
          intro v' w2 ho hgr hat
          have e4 := hgr.cell (a := ⟨b, o + k, none⟩) hHeld (fun e => by have := LO.out b e.symm; omega)
          have e3 := hgr.cell (a := ⟨(w.heap.size + 1), 1, none⟩) (cellsQ2 RV.out).2.1 NG.out
          have R3 := Hid.mk' (grown_boxS RV.out hgr NG.out)
          have ho' : w2.ownsRow B 9 1 v' ((List.take (k + 1) (cutC s 32)).filter neB).length (scs ((List.take (k + 1) (cutC s 32)).filter neB)) := by rw [FT.out, List.length_append, scs_snoc]; exact ho
          obtain ⟨av, cv, ev', _⟩ := StAt.of_own ho'
          have O3 := Hid.mk' ho'
          subst ev'
          clear ho'
          have K3 := Hid.mk' (kept_grownS KV.out hgr (fun k e => by rw [hBe]; exact LO.out k e))
          have f3 := (frzQ2 R3.out).2
          clear ho hgr hat
          refine hK.out _ _ e4 (fun hHeld => ?_)
          clear hK K
          try simp only [Act.put, List.setIfInBounds_toArray, List.set_cons_zero, List.set_cons_succ]
          refine wpAnyH_take (i := 8) (oi := ⟨_, _, _, _, _, _⟩) (v := ?_) rfl (by kernel_rfl) (by kernel_rfl) (by kernel_rfl) (fun _ _ _ h => h) (Or.inl ⟨by rfl, ?_⟩) (by assumption) ?_
          rotate_left
          · (intro w hSw; (try dsimp only at hSw); go_simp; (try with_reducible rfl))
          try simp only [Act.put, List.setIfInBounds_toArray, List.set_cons_zero, List.set_cons_succ]
          refine wpAnyH_ready (rs := [9]) (by kernel_rfl) (by simp) ?_
          refine AllReadyH.cons (o := ⟨_, _, _, _, _, _⟩) rfl (fun K hK => ?_) AllReadyH.nil
          go_simp
          refine hK.out _ _ (by refine (World.cell?_setCell_other _ _ _ _ ?_).trans e4; simp [hbG, hbG2]) (fun hHeld => ?_)
          clear hK K
          try simp only [Act.put, List.setIfInBounds_toArray, List.set_cons_zero, List.set_cons_succ]
          refine wpAnyH_done (by kernel_rfl) ?_ _
          have LO3 := own_lo O3.out
          have O4 := Hid.mk' (own_setS (p := ⟨w.heap.size + 1, 1, none⟩) (u := .slice av ((List.take (k + 1) (cutC s 32)).filter neB).length cv) O3.out (fun e => by have := LO3 _ e; simp at this; omega))
          have R4 := Hid.mk' (rowSet1 (u := .slice av ((List.take (k + 1) (cutC s 32)).filter neB).length cv) R3.out)
          have K4 := Hid.mk' (K3.out.setCell (p := ⟨w.heap.size + 1, 1, none⟩) (by simp) (by simp) (.slice av ((List.take (k + 1) (cutC s 32)).filter neB).length cv))
          clear LO3
          go_wp2
          go_roundw
          case rel => exact ⟨k + 1, _, by omega, by go_num, R4.out, O4.out, K4.out⟩
          case measure => simp [intOf]; omega
      · rw [if_neg hx, List.append_nil] at FT
        have hxn : x = ⟨#[]⟩ := by
          rcases Classical.em (x = ⟨#[]⟩) with h | h
          · exact h
          · exact absurd (neB_toList.2 h) hx
        subst hxn
        go_wp2
        go_roundw
        case rel => exact ⟨k + 1, v, by omega, by go_num, RW.out, by rw [FT.out]; exact HO.out, KP.out⟩
        case measure => simp [intOf]; omega
    · have ci : ¬ (k : Int) < ((cutC s 32).length : Int) := by omega
      have e : k = (cutC s 32).length := by omega
      subst e
      rw [List.take_length] at HO
      obtain ⟨a9, c9, rfl, st9⟩ := StAt.of_own HO.out
      have ST9 := Hid.mk' st9
      have R0 := Hid.mk' (rowK RA.out KP.out (.inl (by omega)))
      obtain ⟨c0, c1, _⟩ := cellsQ2 RW.out
      obtain ⟨z0, z1, _⟩ := cellsQ2 R0.out
      obtain ⟨f0, f1⟩ := frzQ2 R0.out
      clear st9
      go_wp2
      refine bodyPost_ret (v := .agg #[.int .i64 0, .slice a9 (wordsL s).length c9]) (by simp [results, Try.results4, go_sem, *]; rfl) rfl ?_
      have KK := ((KeptIn.refl w.heap.size (w.heap.size + 1) wr).setCell (p := ⟨w.heap.size, 0, none⟩) (by simp) (by simp) (.int .i64 0)).setCell (p := ⟨w.heap.size, 1, none⟩) (by simp) (by simp) (.slice a9 (wordsL s).length c9)
      refine ⟨_, ⟨_, rfl⟩, stK ST9.out KK (fun b o e => ?_), (HB1.out.trans (KP.out.below (by omega) ?_)).trans (KK.below (Nat.le_refl _) ?_)⟩
      · have := own_lo HO.out b (by rw [e]; rfl)
        right; omega
      · omega
      · have := KP.out.size; omega

end Go.Proofs.Ytaihlcfpkabonaa
