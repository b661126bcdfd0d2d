/- Bytes of a text; bytes that may be written, and marks in them (out of Bs, Bv, Bz, for seats that have no policies). -/
import Derived.Test.YtcjnfodkppcpoaaDoorXCq
import Derived.Test.YtcjnfodkppcpoaaDoorXV4
import Derived.Lib.ConvBytes
import Derived.Lib.AtoiErrMem
namespace Go.Proofs.YtcjnfodkppcpoaaDoor
open Go.RowKit Go.Maps
set_option linter.unusedVariables false
set_option linter.unusedSimpArgs false

/-- A text's bytes. -/
def bytesL (s : ByteArray) : List Int := s.data.toList.map (fun b => (b.toNat : Int))

theorem bytesL_len (s : ByteArray) : (bytesL s).length = s.size := by unfold bytesL; rw [List.length_map, Array.length_toList]; rfl

theorem bytesL_at (s : ByteArray) (j : Nat) (hj : j < s.size) : (bytesL s).getD j 0 = ((s.data.toList.getD j 0).toNat : Int) := by
  have h : j < s.data.toList.length := by rw [Array.length_toList]; exact hj
  unfold bytesL
  rw [List.getD_eq_getElem?_getD, List.getD_eq_getElem?_getD, List.getElem?_map, List.getElem?_eq_getElem h]
  rfl

theorem bytes_at (w : World) (s : ByteArray) : BAt (Lib.bytesWorld w 5 s) (some ⟨w.heap.size, 0, none⟩) (bytesL s) := by
  by_cases h : s.size = 0
  · left
    exact List.eq_nil_of_length_eq_zero (by rw [bytesL_len]; exact h)
  · refine .inr ⟨_, _, rfl, by rw [Lib.bytesWorld_size]; omega, fun k hk => ?_⟩
    rw [bytesL_len] at hk
    rw [Nat.zero_add, Lib.bytesWorld_cell w 5 s k hk]
    unfold bv
    rw [bytesL_at s k hk]

/-- Bytes that may be written. -/
def FrA (w : World) (v : Option Addr) (n : Nat) : Prop := ∀ b o, v = some ⟨b, o, none⟩ → ∀ k, k < n → w.frozen? ⟨b, o + k, none⟩ = false

theorem FrA.row {w : World} {g t n m : Nat} {f : Nat → Value} (h : w.rowIs g t m f) : FrA w (some ⟨g, 0, none⟩) n := fun b o e k _ => by cases e; exact h.frozen _

theorem FrA.setTwo {w : World} {v : Option Addr} {n : Nat} {a b : Addr} {x y : Value} (h : FrA w v n) : FrA ((w.setCell a x).setCell b y) v n := fun b o e k hk => by
  rw [World.frozen?_setCell, World.frozen?_setCell]; exact h b o e k hk

theorem bytes_free (w : World) (s : ByteArray) : FrA (Lib.bytesWorld w 5 s) (some ⟨w.heap.size, 0, none⟩) s.size := fun b o e k hk => by
  cases e
  unfold World.frozen?
  rw [Lib.bytesWorld_at_new]
  have : s.size ≤ (Lib.bytesCells w 5 s).size := by
    unfold Lib.bytesCells
    rw [Array.size_append, Array.size_map]
    exact Nat.le_add_right _ _
  have h2 : decide ((Lib.bytesCells w 5 s).size ≤ 0 + k) = false := by rw [decide_eq_false_iff_not]; omega
  simp only [h2, Bool.false_and]

/-- An answer of bytes, to be read and written. -/
def KqP (r : Int × List Int) (w : World) (e : Ending) (w' : World) : Prop := ∃ v c', e = .returned (.agg #[.int .i64 r.1, .slice v r.2.length c']) ∧ BAt w' v r.2 ∧ FrA w' v r.2.length ∧ (∀ b o, v = some ⟨b, o, none⟩ → w.heap.size ≤ b) ∧ Below w.heap.size w w'

theorem kqP_nil {r : Int × List Int} {c : Int} {w w' : World} (h : r = (c, [])) (hb : Below w.heap.size w w') : KqP r w (.returned (.agg #[.int .i64 c, .slice none 0 0])) w' :=
  ⟨none, 0, by rw [h]; rfl, by rw [h]; exact .inl rfl, (fun b o e => by cases e), (fun b o e => by cases e), hb⟩

/-- Bytes at one's own place, with marks up to i. -/
def MkF (w : World) (g o n k i : Nat) (l : List Int) : Prop := ∀ j, j < n → w.cell? ⟨g, o + j, none⟩ = some (if j < i then bv (mb k n) j else bv l j)

set_option maxHeartbeats 800000 in
theorem markByteS_fr (g o c k : Nat) (l : List Int) (w : World) (hg : g < w.heap.size) (hc : ∀ j, j < l.length → w.cell? ⟨g, o + j, none⟩ = some (bv l j)) (hf : FrA w (some ⟨g, o, none⟩) l.length) (hk : (k : Int) + l.length ≤ 100000000) :
    Calls Tryd.prog 31 #[.slice (some ⟨g, o, none⟩) l.length c, .int .i64 k] w fun e w' => e = .returned (.int .i64 ((k : Int) + l.length)) ∧ BAt w' (some ⟨g, o, none⟩) (mb k l.length) ∧ KeptIn g (g + 1) w w' := by
  have hf' : ∀ j, j < l.length → w.frozen? ⟨g, o + j, none⟩ = false := hf g o rfl
  go_enter Tryd.func31, Tryd.ntmps31
  go_wp2
  go_loopw [1, 5] (fun s x wr => ∃ i : Nat, i ≤ l.length ∧ x = .int .i64 i ∧ s = .int .i64 ((k : Int) + i) ∧ MkF wr g o l.length k i l ∧ (∀ j, j < l.length → wr.frozen? ⟨g, o + j, none⟩ = false) ∧ KeptIn g (g + 1) w wr) (fun _ x _ => l.length - (intOf x).toNat)
  case atStart => exact ⟨0, Nat.zero_le _, rfl, by simp, fun j hj => by rw [if_neg (by omega)]; exact hc j hj, hf', KeptIn.refl _ _ _⟩
  case round =>
    obtain ⟨i, hi, rfl, rfl, hrow, hfr, hkp⟩ := hrel
    by_cases hlt : i < l.length
    · have f0 := hfr i hlt
      obtain ⟨v0, g0⟩ : ∃ v, wr.cell? ⟨g, o + i, none⟩ = some v := ⟨_, hrow i hlt⟩
      have R1 := Hid.mk' hrow
      have R2 := Hid.mk' hkp
      have R3 := Hid.mk' hfr
      clear hrow hkp hfr hf hf' hc
      go_wp2
      go_roundw
      case rel =>
        refine ⟨i + 1, by omega, by go_num, by go_num, fun j hj => ?_, fun j hj => by rw [World.frozen?_setCell]; exact R3.out j hj, R2.out.setCell (p := ⟨g, o + i, none⟩) (Nat.le_refl _) (Nat.lt_succ_self _) _⟩
        by_cases e : j = i
        · subst e
          rw [if_pos (by omega), bv_mb _ _ _ hj]
          exact World.cell?_setCell_same _ _ _ g0
        · rw [World.cell?_setCell_other _ _ _ _ (fun h => e (by have := congrArg Addr.off h; dsimp only at this; omega)), R1.out j hj]
          by_cases hji : j < i
          · rw [if_pos hji, if_pos (by omega)]
          · rw [if_neg hji, if_neg (by omega)]
      case measure => simp [intOf]; omega
    · go_wp2
      go_ret
      have e : i = l.length := by omega
      subst e
      refine ⟨rfl, .inr ⟨g, o, rfl, Nat.lt_of_lt_of_le hg hkp.size, fun j hj => ?_⟩, hkp⟩
      rw [mb_len] at hj
      rw [hrow j hj, if_pos hj]

set_option maxHeartbeats 400000 in
theorem markByteS_zero (v : Option Addr) (c k : Nat) (w : World) (hk : (k : Int) ≤ 100000000) :
    Calls Tryd.prog 31 #[.slice v 0 c, .int .i64 k] w fun e w' => e = .returned (.int .i64 (k : Int)) ∧ w' = w := by
  go_enter Tryd.func31, Tryd.ntmps31
  go_wp2
  go_loop [1, 5] (fun s x => x = .int .i64 0 ∧ s = .int .i64 (k : Int)) (fun _ _ => 0)
  case atStart => exact ⟨rfl, rfl⟩
  case round =>
    obtain ⟨rfl, rfl⟩ := hrel
    go_wp2
    go_ret
    exact ⟨rfl, rfl⟩

/-- Marks in an answer's bytes. -/
theorem markByteS_at (v : Option Addr) (c lo hi : Nat) (l : List Int) (w : World) (h : BAt w v l) (hf : FrA w v l.length) (hv : ∀ b o, v = some ⟨b, o, none⟩ → l ≠ [] → lo ≤ b ∧ b < hi) (hl : (l.length : Int) ≤ 1048576) :
    Calls Tryd.prog 31 #[.slice v l.length c, .int .i64 1] w fun e w' => e = .returned (.int .i64 (1 + (l.length : Int))) ∧ BAt w' v (mb 1 l.length) ∧ KeptIn lo hi w w' := by
  by_cases h0 : l = []
  · subst h0
    refine (markByteS_zero v c 1 w (by omega)).mono ?_
    rintro e w' ⟨rfl, rfl⟩
    exact ⟨rfl, .inl rfl, KeptIn.refl _ _ _⟩
  · rcases h with h | ⟨b, o, rfl, hb, hc⟩
    · exact absurd h h0
    · refine (markByteS_fr b o c 1 l w hb hc hf (by omega)).mono ?_
      rintro e w' ⟨rfl, h1, h2⟩
      have := hv b o rfl h0
      exact ⟨rfl, h1, h2.mono this.1 (by omega)⟩

set_option maxHeartbeats 400000 in
theorem markBR_at (z : Int) (v : Option Addr) (c lo hi : Nat) (l : List Int) (w : World) (h : BAt w v l) (hf : FrA w v l.length) (hv : ∀ b o, v = some ⟨b, o, none⟩ → l ≠ [] → lo ≤ b ∧ b < hi) (hl : (l.length : Int) ≤ 1048576) (hh : hi ≤ w.heap.size) :
    Calls Tryd.prog 13 #[.agg #[.int .i64 z, .slice v l.length c], .int .i64 1] w fun e w' => e = .returned (.int .i64 (1 + (l.length : Int))) ∧ BAt w' v (mb 1 l.length) ∧ KeptIn lo hi w w' := by
  have B0 := below_new w (.cells #[.int .i64 z, .slice v l.length c] 26)
  have FA : FrA (w.alloc (.cells #[.int .i64 z, .slice v l.length c] 26)) v l.length := fun b o e k hk => by
    have hne : l ≠ [] := fun x => by rw [x] at hk; exact absurd hk (by simp)
    have hlt := (hv b o e hne).2
    have := hf b o e k hk
    unfold World.frozen? at this ⊢
    rw [B0.block b (by omega)]
    exact this
  have KK := Hid.mk' (markByteS_at v c lo hi l _ (h.below B0) FA hv hl)
  have BB := Hid.mk' (KeptIn.of_below (lo := lo) (hi := hi) B0)
  clear B0 h FA hf hv
  go_enter Tryd.func13, Tryd.ntmps13
  go_wp2_with fail
  refine KK.out.mono ?_
  rintro e w1 ⟨rfl, o1, t1⟩
  have O1 := Hid.mk' o1
  have T1 := Hid.mk' (BB.out.trans t1)
  clear KK o1 t1
  go_wp2
  go_ret
  exact ⟨rfl, O1.out, T1.out⟩

theorem BAt.keptIn {w w' : World} {v : Option Addr} {l : List Int} {lo hi : Nat} (h : BAt w v l) (hk : KeptIn lo hi w w') (hv : ∀ b o, v = some ⟨b, o, none⟩ → l ≠ [] → b < lo ∨ hi ≤ b) : BAt w' v l := by
  rcases h with h | ⟨b, o, e, hb, hc⟩
  · exact .inl h
  · by_cases h0 : l = []
    · exact .inl h0
    · refine .inr ⟨b, o, e, Nat.lt_of_lt_of_le hb hk.size, fun k hk' => ?_⟩
      have := hc k hk'
      unfold World.cell? at this ⊢
      rw [hk.block b hb (hv b o e h0)]
      exact this

theorem FrA.keptIn {w w' : World} {v : Option Addr} {n lo hi : Nat} (h : FrA w v n) (hk : KeptIn lo hi w w') (hv : ∀ b o, v = some ⟨b, o, none⟩ → 0 < n → (b < lo ∨ hi ≤ b) ∧ b < w.heap.size) : FrA w' v n := fun b o e k hkn => by
  have hh := hv b o e (by omega)
  have := h b o e k hkn
  unfold World.frozen? at this ⊢
  rw [hk.block b hh.2 hh.1]
  exact this

theorem BAt.setTwo {w : World} {v : Option Addr} {l : List Int} {g : Nat} {x y : Value} (h : BAt w v l) (hg : ∀ b o, v = some ⟨b, o, none⟩ → l ≠ [] → b ≠ g) : BAt ((w.setCell ⟨g, 0, none⟩ x).setCell ⟨g, 1, none⟩ y) v l := by
  rcases h with h | ⟨b, o, e, hs, hc⟩
  · exact .inl h
  · by_cases hl : l = []
    · exact .inl hl
    · refine .inr ⟨b, o, e, by simpa using hs, fun k hk => ?_⟩
      have hne := hg b o e hl
      rw [World.cell?_setCell_other _ _ _ _ (by simp [Ne.symm hne]; try (intro h; exact absurd h.symm hne)), World.cell?_setCell_other _ _ _ _ (by simp [Ne.symm hne]; try (intro h; exact absurd h.symm hne))]
      exact hc k hk

end Go.Proofs.YtcjnfodkppcpoaaDoor
