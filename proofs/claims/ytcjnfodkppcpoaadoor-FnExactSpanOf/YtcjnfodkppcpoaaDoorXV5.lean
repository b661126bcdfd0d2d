/- An attribute of a token, both sides. -/
import Derived.Test.YtcjnfodkppcpoaaDoorXV2
import Derived.Test.YtcjnfodkppcpoaaDoorXV4
import Derived.Laws.BytesString
import Derived.Laws.IdiomStrings
namespace Go.Proofs.YtcjnfodkppcpoaaDoor
open Go.RowKit
set_option linter.unusedVariables false
set_option linter.unusedSimpArgs false

/-- The code and the value of an attribute that is asked for. -/
def aoCode (t : TK) (s : ByteArray) : Int := if tfault t = 0 then (if 0 ≤ posK t.at_ s then 0 else 4) else tfault t
def aoVal (t : TK) (s : ByteArray) : List Int := if tfault t = 0 then (if 0 ≤ posK t.at_ s then (atK t.at_ (posK t.at_ s).toNat).vl else []) else []

theorem posFrom_lt : ∀ (l : List AT) (s : ByteArray) (n : Nat), posFrom l s n = -1 ∨ ∃ k : Nat, k < l.length ∧ posFrom l s n = ((n + k : Nat) : Int)
  | [], _, _ => .inl rfl
  | x :: r, s, n => by
    unfold posFrom
    by_cases h : (x.nm.toList == s.toList) = true
    · rw [if_pos h]; exact .inr ⟨0, by simp, by simp⟩
    · rw [if_neg h]
      rcases posFrom_lt r s (n + 1) with h' | ⟨k, h1, h2⟩
      · exact .inl h'
      · exact .inr ⟨k + 1, by simp; omega, by rw [h2]; congr 1; omega⟩
theorem posK_lt (l : List AT) (s : ByteArray) : posK l s = -1 ∨ ∃ k : Nat, k < l.length ∧ posK l s = (k : Int) := by
  rcases posFrom_lt l s 0 with h | ⟨k, h1, h2⟩
  · exact .inl h
  · exact .inr ⟨k, h1, by unfold posK; rw [h2, Nat.zero_add]⟩

end Go.Proofs.YtcjnfodkppcpoaaDoor

/- An attribute of a token: the program. -/
namespace Go.Proofs.YtcjnfodkppcpoaaDoor
open Go.RowKit
set_option linter.unusedVariables false
set_option linter.unusedSimpArgs false

end Go.Proofs.YtcjnfodkppcpoaaDoor

/- Walks: marks are laid into a token's attributes. -/
namespace Go.Proofs.YtcjnfodkppcpoaaDoor
open Go.RowKit
set_option linter.unusedVariables false
set_option linter.unusedSimpArgs false

/-- The text that bytes are. -/
def strI (l : List Int) : ByteArray := l.foldl (fun r n => r.push (UInt8.ofNat n.toNat)) ByteArray.empty

theorem conv_bytesT {w : World} {a : Option Addr} {l : List Int} (c : Nat) (h : BAt w a l) : (convert 24 9 (.slice a l.length c)).run Tryd.prog w = .ok (.string (strI l)) w := by
  rw [run_convert_bytes_string (P := Tryd.prog) w 24 9 5 a l.length c Tryd.underlying24 Tryd.underlying5 Tryd.underlying9]
  cases a with
  | none =>
    rcases h with h | ⟨b, o, e, _⟩
    · subst h
      simp [Conv.bytesToString, strI, Sem.run_pure]
    · cases e
  | some ad =>
    refine run_bytesToString w ad l.length c l ?_
    have hk := run_loadCells_list (P := Tryd.prog) w ad (l.map (Value.int .u8)) (fun j v hj => by
      rcases h with h | ⟨b, o, e, _, hc⟩
      · subst h; simp at hj
      · cases e
        have hjl : j < l.length := by
          have := (List.getElem?_eq_some_iff.1 hj).1
          simpa using this
        have := hc j hjl
        rw [List.getElem?_map] at hj
        rw [show (⟨b, o, none⟩ : Addr).add j = ⟨b, o + j, none⟩ from by unfold Addr.add; split; (rename_i h0; rw [h0]; rfl); rfl, this]
        simp [bv, List.getD_eq_getElem?_getD] at hj ⊢
        obtain ⟨x, hx, rfl⟩ := hj
        simp [hx])
    simpa using hk

theorem conv_one (w : World) (x : Int) : (convert 24 9 (.slice (some ⟨w.heap.size, 0, none⟩) 1 1)).run Tryd.prog (w.alloc (.cells #[.int .u8 x] 5)) = .ok (.string (strI [x])) (w.alloc (.cells #[.int .u8 x] 5)) :=
  conv_bytesT (l := [x]) 1 (.inr ⟨_, _, rfl, by simp, fun k hk => by
    obtain rfl : k = 0 := by simpa using hk
    simp [bv]⟩)
theorem strI_one (x : Int) : (strI [x]).size = 1 := rfl

set_option maxHeartbeats 1600000 in
theorem markText_any (k : Nat) (w : World) (h0 : 0 < k) (hk : k ≤ 100000000) :
    Calls Tryd.prog 29 #[.int .i64 k] w fun e w' => ∃ s, e = .returned (.string s) ∧ Below w.heap.size w w' := by
  have k0 : ¬ (k : Int) ≤ 0 := by omega
  go_enter Tryd.func29, Tryd.ntmps29
  go_wp2
  go_loopw [0, 3] (fun x o wr => ∃ (m : Nat) (s : ByteArray), x = .int .i64 m ∧ m ≤ 100000000 ∧ o = .string s ∧ s.size + m ≤ 100000001 ∧ Below w.heap.size w wr) (fun x _ _ => (intOf x).toNat)
  case atStart => exact ⟨k, ⟨#[]⟩, rfl, hk, rfl, by have : (⟨#[]⟩ : ByteArray).size = 0 := rfl; omega, Below.refl _ _⟩
  case round =>
    obtain ⟨m, s, rfl, hm, rfl, hs, hbl⟩ := hrel
    have HB := Hid.mk' hbl
    clear hbl
    by_cases hz : 0 < m
    · have ci : (m : Int) > 0 := by omega
      have hcv := conv_one wr
      have hst := strI_one (48 + (m : Int) % 10)
      go_wp2
      go_roundw
      case rel => exact ⟨m / 10, _, by go_num, by omega, rfl, by rw [ByteArray.size_append, hst]; omega, HB.out.alloc HB.out.size _⟩
      case measure => simp [intOf]; omega
    · have ci : ¬ (m : Int) > 0 := by omega
      go_wp2
      go_ret
      exact ⟨⟨_, rfl⟩, HB.out⟩

/-- Rows of attributes of one's own: their blocks, and how many bytes each value has. -/
def MR (g hi : Nat) (l : List AT) (w : World) : Prop := ∃ f, w.rowIs g 94 (l.length * 2) f ∧ g < hi ∧ ∀ j, j < l.length → (∃ s, f (j * 2) = .string s) ∧ ∃ b, f (j * 2 + 1) = .slice (some ⟨b, 0, none⟩) (atK l j).vl.length (atK l j).vl.length ∧ g < b ∧ b < hi ∧ ∃ fb, w.rowIs b 5 (atK l j).vl.length fb

theorem AO.mr {g : Nat} {l : List AT} {w : World} (h : AO g l w) : MR g w.heap.size l w := by
  obtain ⟨f, hf, hj⟩ := h
  refine ⟨f, hf, hf.lt, fun j hk => ?_⟩
  obtain ⟨h1, b, h2, h3, h4⟩ := hj j hk
  exact ⟨⟨_, h1⟩, b, h2, h3, h4.lt, _, h4⟩

theorem MR.below {g hi : Nat} {l : List AT} {w w1 : World} (h : MR g hi l w) (hb : Below w.heap.size w w1) : MR g hi l w1 := by
  obtain ⟨f, hf, hg, hj⟩ := h
  refine ⟨f, rowB hf hb, hg, fun j hk => ?_⟩
  obtain ⟨h1, b, h2, h3, h4, fb, h5⟩ := hj j hk
  exact ⟨h1, b, h2, h3, h4, fb, rowB h5 hb⟩

/-- A name is turned. -/
theorem MR.name {g hi k : Nat} {l : List AT} {w : World} (h : MR g hi l w) (hk : k < l.length) (s : ByteArray) : MR g hi l (w.setCell ⟨g, k * 2, none⟩ (.string s)) := by
  obtain ⟨f, hf, hg, hj⟩ := h
  have K : KeptIn g (g + 1) w (w.setCell ⟨g, k * 2, none⟩ (.string s)) := (KeptIn.refl _ _ w).setCell (p := ⟨g, k * 2, none⟩) (Nat.le_refl _) (Nat.lt_succ_self _) _
  refine ⟨_, hf.set (k * 2) _, hg, fun j hjl => ?_⟩
  obtain ⟨⟨s1, h1⟩, b, h2, h3, h4, fb, h5⟩ := hj j hjl
  refine ⟨?_, b, ?_, h3, h4, fb, rowK h5 K (.inr h3)⟩
  · by_cases e : j = k
    · subst e; exact ⟨s, by rw [if_pos rfl]⟩
    · exact ⟨s1, by rw [if_neg (by omega)]; exact h1⟩
  · rw [if_neg (by omega)]; exact h2

theorem row_len {w : World} {b n m : Nat} {t t' : TypeId} {f f' : Nat → Value} (h : w.rowIs b t n f) (h' : w.rowIs b t' m f') : n = m := by
  obtain ⟨cs, h1, h2, _⟩ := h
  obtain ⟨cs', h1', h2', _⟩ := h'
  have e := h1.symm.trans h1'
  simp at e
  rw [← h2, ← h2', e.1]

/-- The bytes of one value are turned. -/
theorem MR.value {g hi k b : Nat} {l : List AT} {w w1 : World} {fb : Nat → Value} (h : MR g hi l w) (hgb : g < b) (hb : b < hi) (hr : w1.rowIs b 5 (atK l k).vl.length fb) {f0 : Nat → Value} (hrw : w.rowIs b 5 (atK l k).vl.length f0) (hk : KeptIn b (b + 1) w w1) : MR g hi l w1 := by
  obtain ⟨f, hf, hg, hj⟩ := h
  refine ⟨f, rowK hf hk (.inl hgb), hg, fun j hjl => ?_⟩
  obtain ⟨h1, b', h2, h3, h4, fb', h5⟩ := hj j hjl
  by_cases e : b' = b
  · subst e
    have e2 := row_len h5 hrw
    rw [e2] at h2 ⊢
    exact ⟨h1, b', h2, h3, h4, fb, hr⟩
  · exact ⟨h1, b', h2, h3, h4, fb', rowK h5 hk (by omega)⟩

def vsz : List AT → Nat
  | [] => 0
  | x :: r => x.vl.length + vsz r
theorem vsz_take (l : List AT) : ∀ k, k < l.length → vsz (l.take (k + 1)) = vsz (l.take k) + (atK l k).vl.length := by
  induction l with
  | nil => intro k h; exact absurd h (Nat.not_lt_zero _)
  | cons x r ih =>
    intro k hk
    cases k with
    | zero => simp [vsz, atK]
    | succ k =>
      have := ih k (by simpa using hk)
      simp only [List.take_succ_cons, vsz]
      rw [this]
      have e : atK (x :: r) (k + 1) = atK r k := by simp [atK]
      rw [e]; omega
theorem vsz_le (l : List AT) (k : Nat) : vsz (l.take k) ≤ asz l := by
  induction l generalizing k with
  | nil => simp [vsz]
  | cons x r ih =>
    cases k with
    | zero => simp [vsz]
    | succ k => simp only [List.take_succ_cons, vsz, asz]; have := ih k; omega

set_option maxHeartbeats 3200000 in
theorem markAttrS_any (g hi c : Nat) (l : List AT) (w : World) (h : MR g hi l w) (hhi : hi ≤ w.heap.size) (hl : (l.length : Int) + asz l ≤ 1048576) :
    Calls Tryd.prog 30 #[.slice (some ⟨g, 0, none⟩) l.length c, .int .i64 1] w fun e w' => e = .returned (.int .i64 (1 + (l.length : Int) + (vsz l : Int))) ∧ KeptIn g hi w w' := by
  have HM := Hid.mk' h
  clear h
  go_enter Tryd.func30, Tryd.ntmps30
  go_wp2
  go_loopw [1, 5] (fun x i wr => ∃ k : Nat, k ≤ l.length ∧ i = .int .i64 k ∧ x = .int .i64 ((1 + k + vsz (l.take k) : Nat) : Int) ∧ MR g hi l wr ∧ KeptIn g hi w wr) (fun _ i _ => l.length - (intOf i).toNat)
  case atStart => exact ⟨0, Nat.zero_le _, rfl, by simp [vsz], HM.out, KeptIn.refl _ _ _⟩
  case round =>
    obtain ⟨k, hk, rfl, rfl, hmr, hkp⟩ := hrel
    have HR := Hid.mk' hmr
    have HK := Hid.mk' hkp
    clear hmr hkp
    by_cases hlt : k < l.length
    · have ci : (k : Int) < (l.length : Int) := by omega
      have st := vsz_take l k hlt
      have sl := vsz_le l (k + 1)
      obtain ⟨q, hq⟩ : ∃ q : Nat, 1 + k + vsz (l.take k) = q := ⟨_, rfl⟩
      have hq1 : 1 + (k + 1) + vsz (l.take (k + 1)) = q + 1 + (atK l k).vl.length := by omega
      have hq2 : q + 1 + (atK l k).vl.length ≤ 100000000 := by omega
      have Q1 := Hid.mk' hq1
      have KT := Hid.mk' (markText_any q wr (by omega) (by omega))
      rw [hq]
      clear st sl hq hq1
      go_wp2_with fail
      refine KT.out.mono ?_
      rintro e w1 ⟨s, rfl, hb⟩
      have hm1 := HR.out.below hb
      have HK1 := Hid.mk' (HK.out.trans (KeptIn.of_below hb))
      obtain ⟨f, hf, _, _⟩ := id hm1
      have f0 := hf.frozen (k * 2)
      obtain ⟨v0, g0⟩ : ∃ v, w1.cell? ⟨g, k * 2, none⟩ = some v := ⟨_, hf.cell (by omega)⟩
      have hm2 := hm1.name hlt s
      obtain ⟨f2, hf2, hgh, hj2⟩ := id hm2
      obtain ⟨_, b, h2, h3, h4, fb, h5⟩ := hj2 k hlt
      have c2 : (w1.setCell ⟨g, k * 2, none⟩ (.string s)).cell? ⟨g, k * 2 + 1, none⟩ = some (.slice (some ⟨b, 0, none⟩) (atK l k).vl.length (atK l k).vl.length) := by
        have := hf2.cell (show k * 2 + 1 < l.length * 2 by omega)
        rw [this, h2]
      have KB := Hid.mk' (markByteS_row b (atK l k).vl.length (atK l k).vl.length (atK l k).vl.length (q + 1) fb _ h5 (Nat.le_refl _) (by omega))
      have HK2 := Hid.mk' (HK1.out.setCell (p := ⟨g, k * 2, none⟩) (Nat.le_refl _) hgh (.string s))
      have M2 := Hid.mk' hm2
      have H5 := Hid.mk' h5
      clear hm1 hm2 hf hf2 hj2 h5 hb KT HR HK HK1
      generalize hV : w1.setCell ⟨g, k * 2, none⟩ (.string s) = V at *
      go_wp2_with fail
      clear hV
      refine KB.out.mono ?_
      rintro e w2 ⟨rfl, hr, hkk⟩
      have M3 := Hid.mk' (M2.out.value h3 h4 hr H5.out hkk)
      have HK3 := Hid.mk' (HK2.out.trans (hkk.mono (by omega) (by omega)))
      clear hr hkk KB M2 H5 HK2
      go_wp2
      go_roundw
      case rel => exact ⟨k + 1, by omega, by go_num, by rw [Q1.out]; simp, M3.out, HK3.out⟩
      case measure => simp [intOf]; omega
    · have ci : ¬ (k : Int) < (l.length : Int) := by omega
      have e : k = l.length := by omega
      subst e
      go_wp2
      go_ret
      exact ⟨by simp, HK.out⟩

end Go.Proofs.YtcjnfodkppcpoaaDoor
