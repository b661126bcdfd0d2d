/- Walks: marks are laid into a token's attributes. -/
import Derived.Test.YtpcpnfpnkkjkcaaGreatU2
import Derived.Laws.BytesString
import Derived.Laws.IdiomStrings
import Derived.BigGuard
namespace Go.Proofs.YtpcpnfpnkkjkcaaGreat
open Go.RowKit
set_option linter.unusedVariables false
set_option linter.unusedSimpArgs false

/-- The text that bytes are. -/
def strI (l : List Int) : ByteArray := l.foldl (fun r n => r.push (UInt8.ofNat n.toNat)) ByteArray.empty

theorem conv_bytesT {w : World} {a : Option Addr} {l : List Int} (c : Nat) (h : BAt w a l) : (convert 87 9 (.slice a l.length c)).run Tryz.prog w = .ok (.string (strI l)) w := by
  rw [run_convert_bytes_string (P := Tryz.prog) w 87 9 5 a l.length c Tryz.underlying87 Tryz.underlying5 Tryz.underlying9]
  cases a with
  | none =>
    rcases h with h | ⟨b, o, e, _⟩
    · subst h
      simp [Conv.bytesToString, strI, Sem.run_pure]
    · cases e
  | some ad =>
    refine run_bytesToString w ad l.length c l ?_
    have hk := run_loadCells_list (P := Tryz.prog) w ad (l.map (Value.int .u8)) (fun j v hj => by
      rcases h with h | ⟨b, o, e, _, hc⟩
      · subst h; simp at hj
      · cases e
        have hjl : j < l.length := by
          have := (List.getElem?_eq_some_iff.1 hj).1
          simpa using this
        have := hc j hjl
        rw [List.getElem?_map] at hj
        rw [show (⟨b, o, none⟩ : Addr).add j = ⟨b, o + j, none⟩ from by unfold Addr.add; split; (rename_i h0; rw [h0]; rfl); rfl, this]
        simp [bv, List.getD_eq_getElem?_getD] at hj ⊢
        obtain ⟨x, hx, rfl⟩ := hj
        simp [hx])
    simpa using hk

theorem conv_one (w : World) (x : Int) : (convert 87 9 (.slice (some ⟨w.heap.size, 0, none⟩) 1 1)).run Tryz.prog (w.alloc (.cells #[.int .u8 x] 5)) = .ok (.string (strI [x])) (w.alloc (.cells #[.int .u8 x] 5)) :=
  conv_bytesT (l := [x]) 1 (.inr ⟨_, _, rfl, by simp, fun k hk => by
    obtain rfl : k = 0 := by simpa using hk
    simp [bv]⟩)
theorem strI_one (x : Int) : (strI [x]).size = 1 := rfl

set_option maxHeartbeats 1600000 in
theorem markText_any (k : Nat) (w : World) (h0 : 0 < k) (hk : k ≤ 100000000) :
    Calls Tryz.prog 51 #[.int .i64 k] w fun e w' => ∃ s, e = .returned (.string s) ∧ Below w.heap.size w w' := by
  have k0 : ¬ (k : Int) ≤ 0 := by omega
  go_enter Tryz.func51, Tryz.ntmps51
  go_wp2
  go_loopw [0, 3] (fun x o wr => ∃ (m : Nat) (s : ByteArray), x = .int .i64 m ∧ m ≤ 100000000 ∧ o = .string s ∧ s.size + m ≤ 100000001 ∧ Below w.heap.size w wr) (fun x _ _ => (intOf x).toNat)
  case atStart => exact ⟨k, ⟨#[]⟩, rfl, hk, rfl, by have : (⟨#[]⟩ : ByteArray).size = 0 := rfl; omega, Below.refl _ _⟩
  case round =>
    obtain ⟨m, s, rfl, hm, rfl, hs, hbl⟩ := hrel
    have HB := Hid.mk' hbl
    clear hbl
    by_cases hz : 0 < m
    · have ci : (m : Int) > 0 := by omega
      have hcv := conv_one wr
      have hst := strI_one (48 + (m : Int) % 10)
      go_wp2
      go_roundw
      case rel => exact ⟨m / 10, _, by go_num, by omega, rfl, by rw [ByteArray.size_append, hst]; omega, HB.out.alloc HB.out.size _⟩
      case measure => simp [intOf]; omega
    · have ci : ¬ (m : Int) > 0 := by omega
      go_wp2
      go_ret
      exact ⟨⟨_, rfl⟩, HB.out⟩

/-- Rows of attributes of one's own: their blocks, and how many bytes each value has. -/
def MR (g hi : Nat) (l : List AT) (w : World) : Prop := ∃ f, w.rowIs g 106 (l.length * 2) f ∧ g < hi ∧ ∀ j, j < l.length → (∃ s, f (j * 2) = .string s) ∧ ∃ b, f (j * 2 + 1) = .slice (some ⟨b, 0, none⟩) (atK l j).vl.length (atK l j).vl.length ∧ g < b ∧ b < hi ∧ ∃ fb, w.rowIs b 5 (atK l j).vl.length fb

theorem AO.mr {g : Nat} {l : List AT} {w : World} (h : AO g l w) : MR g w.heap.size l w := by
  obtain ⟨f, hf, hj⟩ := h
  refine ⟨f, hf, hf.lt, fun j hk => ?_⟩
  obtain ⟨h1, b, h2, h3, h4⟩ := hj j hk
  exact ⟨⟨_, h1⟩, b, h2, h3, h4.lt, _, h4⟩

theorem MR.below {g hi : Nat} {l : List AT} {w w1 : World} (h : MR g hi l w) (hb : Below w.heap.size w w1) : MR g hi l w1 := by
  obtain ⟨f, hf, hg, hj⟩ := h
  refine ⟨f, rowB hf hb, hg, fun j hk => ?_⟩
  obtain ⟨h1, b, h2, h3, h4, fb, h5⟩ := hj j hk
  exact ⟨h1, b, h2, h3, h4, fb, rowB h5 hb⟩

/-- A name is turned. -/
theorem MR.name {g hi k : Nat} {l : List AT} {w : World} (h : MR g hi l w) (hk : k < l.length) (s : ByteArray) : MR g hi l (w.setCell ⟨g, k * 2, none⟩ (.string s)) := by
  obtain ⟨f, hf, hg, hj⟩ := h
  have K : KeptIn g (g + 1) w (w.setCell ⟨g, k * 2, none⟩ (.string s)) := (KeptIn.refl _ _ w).setCell (p := ⟨g, k * 2, none⟩) (Nat.le_refl _) (Nat.lt_succ_self _) _
  refine ⟨_, hf.set (k * 2) _, hg, fun j hjl => ?_⟩
  obtain ⟨⟨s1, h1⟩, b, h2, h3, h4, fb, h5⟩ := hj j hjl
  refine ⟨?_, b, ?_, h3, h4, fb, rowK h5 K (.inr h3)⟩
  · by_cases e : j = k
    · subst e; exact ⟨s, by rw [if_pos rfl]⟩
    · exact ⟨s1, by rw [if_neg (by omega)]; exact h1⟩
  · rw [if_neg (by omega)]; exact h2

theorem row_len {w : World} {b n m : Nat} {t t' : TypeId} {f f' : Nat → Value} (h : w.rowIs b t n f) (h' : w.rowIs b t' m f') : n = m := by
  obtain ⟨cs, h1, h2, _⟩ := h
  obtain ⟨cs', h1', h2', _⟩ := h'
  have e := h1.symm.trans h1'
  simp at e
  rw [← h2, ← h2', e.1]

/-- The bytes of one value are turned. -/
theorem MR.value {g hi k b : Nat} {l : List AT} {w w1 : World} {fb : Nat → Value} (h : MR g hi l w) (hgb : g < b) (hb : b < hi) (hr : w1.rowIs b 5 (atK l k).vl.length fb) {f0 : Nat → Value} (hrw : w.rowIs b 5 (atK l k).vl.length f0) (hk : KeptIn b (b + 1) w w1) : MR g hi l w1 := by
  obtain ⟨f, hf, hg, hj⟩ := h
  refine ⟨f, rowK hf hk (.inl hgb), hg, fun j hjl => ?_⟩
  obtain ⟨h1, b', h2, h3, h4, fb', h5⟩ := hj j hjl
  by_cases e : b' = b
  · subst e
    have e2 := row_len h5 hrw
    rw [e2] at h2 ⊢
    exact ⟨h1, b', h2, h3, h4, fb, hr⟩
  · exact ⟨h1, b', h2, h3, h4, fb', rowK h5 hk (by omega)⟩

def vsz : List AT → Nat
  | [] => 0
  | x :: r => x.vl.length + vsz r
theorem vsz_take (l : List AT) : ∀ k, k < l.length → vsz (l.take (k + 1)) = vsz (l.take k) + (atK l k).vl.length := by
  induction l with
  | nil => intro k h; exact absurd h (Nat.not_lt_zero _)
  | cons x r ih =>
    intro k hk
    cases k with
    | zero => simp [vsz, atK]
    | succ k =>
      have := ih k (by simpa using hk)
      simp only [List.take_succ_cons, vsz]
      rw [this]
      have e : atK (x :: r) (k + 1) = atK r k := by simp [atK]
      rw [e]; omega
theorem vsz_le (l : List AT) (k : Nat) : vsz (l.take k) ≤ asz l := by
  induction l generalizing k with
  | nil => simp [vsz]
  | cons x r ih =>
    cases k with
    | zero => simp [vsz]
    | succ k => simp only [List.take_succ_cons, vsz, asz]; have := ih k; omega

set_option maxHeartbeats 3200000 in
theorem markAttrS_any (g hi c : Nat) (l : List AT) (w : World) (h : MR g hi l w) (hhi : hi ≤ w.heap.size) (hl : (l.length : Int) + asz l ≤ 1048576) :
    Calls Tryz.prog 49 #[.slice (some ⟨g, 0, none⟩) l.length c, .int .i64 1] w fun e w' => e = .returned (.int .i64 (1 + (l.length : Int) + (vsz l : Int))) ∧ KeptIn g hi w w' := by
  have HM := Hid.mk' h
  clear h
  go_enter Tryz.func49, Tryz.ntmps49
  go_wp2
  go_loopw [1, 5] (fun x i wr => ∃ k : Nat, k ≤ l.length ∧ i = .int .i64 k ∧ x = .int .i64 ((1 + k + vsz (l.take k) : Nat) : Int) ∧ MR g hi l wr ∧ KeptIn g hi w wr) (fun _ i _ => l.length - (intOf i).toNat)
  case atStart => exact ⟨0, Nat.zero_le _, rfl, by simp [vsz], HM.out, KeptIn.refl _ _ _⟩
  case round =>
    obtain ⟨k, hk, rfl, rfl, hmr, hkp⟩ := hrel
    have HR := Hid.mk' hmr
    have HK := Hid.mk' hkp
    clear hmr hkp
    by_cases hlt : k < l.length
    · have ci : (k : Int) < (l.length : Int) := by omega
      have st := vsz_take l k hlt
      have sl := vsz_le l (k + 1)
      obtain ⟨q, hq⟩ : ∃ q : Nat, 1 + k + vsz (l.take k) = q := ⟨_, rfl⟩
      have hq1 : 1 + (k + 1) + vsz (l.take (k + 1)) = q + 1 + (atK l k).vl.length := by omega
      have hq2 : q + 1 + (atK l k).vl.length ≤ 100000000 := by omega
      have Q1 := Hid.mk' hq1
      have KT := Hid.mk' (markText_any q wr (by omega) (by omega))
      rw [hq]
      clear st sl hq hq1
      go_wp2_with fail
      refine KT.out.mono ?_
      rintro e w1 ⟨s, rfl, hb⟩
      have hm1 := HR.out.below hb
      have HK1 := Hid.mk' (HK.out.trans (KeptIn.of_below hb))
      obtain ⟨f, hf, _, _⟩ := id hm1
      have f0 := hf.frozen (k * 2)
      obtain ⟨v0, g0⟩ : ∃ v, w1.cell? ⟨g, k * 2, none⟩ = some v := ⟨_, hf.cell (by omega)⟩
      have hm2 := hm1.name hlt s
      obtain ⟨f2, hf2, hgh, hj2⟩ := id hm2
      obtain ⟨_, b, h2, h3, h4, fb, h5⟩ := hj2 k hlt
      have c2 : (w1.setCell ⟨g, k * 2, none⟩ (.string s)).cell? ⟨g, k * 2 + 1, none⟩ = some (.slice (some ⟨b, 0, none⟩) (atK l k).vl.length (atK l k).vl.length) := by
        have := hf2.cell (show k * 2 + 1 < l.length * 2 by omega)
        rw [this, h2]
      have KB := Hid.mk' (markByteS_row b (atK l k).vl.length (atK l k).vl.length (atK l k).vl.length (q + 1) fb _ h5 (Nat.le_refl _) (by omega))
      have HK2 := Hid.mk' (HK1.out.setCell (p := ⟨g, k * 2, none⟩) (Nat.le_refl _) hgh (.string s))
      have M2 := Hid.mk' hm2
      have H5 := Hid.mk' h5
      clear hm1 hm2 hf hf2 hj2 h5 hb KT HR HK HK1
      generalize hV : w1.setCell ⟨g, k * 2, none⟩ (.string s) = V at *
      go_wp2_with fail
      clear hV
      refine KB.out.mono ?_
      rintro e w2 ⟨rfl, hr, hkk⟩
      have M3 := Hid.mk' (M2.out.value h3 h4 hr H5.out hkk)
      have HK3 := Hid.mk' (HK2.out.trans (hkk.mono (by omega) (by omega)))
      clear hr hkk KB M2 H5 HK2
      go_wp2
      go_roundw
      case rel => exact ⟨k + 1, by omega, by go_num, by rw [Q1.out]; simp, M3.out, HK3.out⟩
      case measure => simp [intOf]; omega
    · have ci : ¬ (k : Int) < (l.length : Int) := by omega
      have e : k = l.length := by omega
      subst e
      go_wp2
      go_ret
      exact ⟨by simp, HK.out⟩

set_option maxHeartbeats 1600000 in
theorem markToken_any (t : TK) (g hi c : Nat) (w : World) (h : MR g hi t.at_ w) (hhi : hi ≤ w.heap.size) (hl : (t.at_.length : Int) + asz t.at_ ≤ 1048576) :
    Calls Tryz.prog 16 #[.agg #[.int .i64 t.kd, .int .i64 t.by_, .string t.nm, .slice (some ⟨g, 0, none⟩) t.at_.length c, .bool t.sh], .int .i64 1] w fun e w' => e = .returned (.int .i64 (1 + (t.at_.length : Int) + (vsz t.at_ : Int))) ∧ KeptIn g hi w w' := by
  have N0 := below_new w (.cells #[.int .i64 t.kd, .int .i64 t.by_, .string t.nm, .slice (some ⟨g, 0, none⟩) t.at_.length c, .bool t.sh] 40)
  have KA := Hid.mk' (markAttrS_any g hi c t.at_ _ (h.below N0) (Nat.le_trans hhi N0.size) hl)
  have HK : Hid (KeptIn g hi w (w.alloc (.cells #[.int .i64 t.kd, .int .i64 t.by_, .string t.nm, .slice (some ⟨g, 0, none⟩) t.at_.length c, .bool t.sh] 40))) := Hid.mk' (KeptIn.of_below N0)
  clear h N0
  go_enter Tryz.func16, Tryz.ntmps16
  go_wp2_with fail
  refine KA.out.mono ?_
  rintro e w1 ⟨rfl, hk⟩
  have HK := Hid.mk' (HK.out.trans hk)
  clear hk KA
  go_wp2
  go_ret
  exact ⟨rfl, HK.out⟩

end Go.Proofs.YtpcpnfpnkkjkcaaGreat

/- Marks in lists of nodes of one's own. -/
namespace Go.Proofs.YtpcpnfpnkkjkcaaGreat
open Go.RowKit
set_option linter.unusedVariables false
set_option linter.unusedSimpArgs false

set_option maxHeartbeats 3200000 in
theorem markAttrS_gen (g hi c z : Nat) (l : List AT) (w : World) (h : MR g hi l w) (hhi : hi ≤ w.heap.size) (hl : (l.length : Int) + asz l ≤ 1048576) (z0 : 0 < z) (z1 : z ≤ 10000000) :
    Calls Tryz.prog 49 #[.slice (some ⟨g, 0, none⟩) l.length c, .int .i64 (z : Int)] w fun e w' => e = .returned (.int .i64 ((z : Int) + (l.length : Int) + (vsz l : Int))) ∧ MR g hi l w' ∧ KeptIn g hi w w' := by
  have HM := Hid.mk' h
  clear h
  go_enter Tryz.func49, Tryz.ntmps49
  go_wp2
  go_loopw [1, 5] (fun x i wr => ∃ k : Nat, k ≤ l.length ∧ i = .int .i64 k ∧ x = .int .i64 ((z + k + vsz (l.take k) : Nat) : Int) ∧ MR g hi l wr ∧ KeptIn g hi w wr) (fun _ i _ => l.length - (intOf i).toNat)
  case atStart => exact ⟨0, Nat.zero_le _, rfl, by simp [vsz], HM.out, KeptIn.refl _ _ _⟩
  case round =>
    obtain ⟨k, hk, rfl, rfl, hmr, hkp⟩ := hrel
    have HR := Hid.mk' hmr
    have HK := Hid.mk' hkp
    clear hmr hkp
    by_cases hlt : k < l.length
    · have ci : (k : Int) < (l.length : Int) := by omega
      have st := vsz_take l k hlt
      have sl := vsz_le l (k + 1)
      obtain ⟨q, hq⟩ : ∃ q : Nat, z + k + vsz (l.take k) = q := ⟨_, rfl⟩
      have hq1 : z + (k + 1) + vsz (l.take (k + 1)) = q + 1 + (atK l k).vl.length := by omega
      have hq2 : q + 1 + (atK l k).vl.length ≤ 100000000 := by omega
      have Q1 := Hid.mk' hq1
      have KT := Hid.mk' (markText_any q wr (by omega) (by omega))
      rw [hq]
      clear st sl hq hq1
      go_wp2_with fail
      refine KT.out.mono ?_
      rintro e w1 ⟨s, rfl, hb⟩
      have hm1 := HR.out.below hb
      have HK1 := Hid.mk' (HK.out.trans (KeptIn.of_below hb))
      obtain ⟨f, hf, _, _⟩ := id hm1
      have f0 := hf.frozen (k * 2)
      obtain ⟨v0, g0⟩ : ∃ v, w1.cell? ⟨g, k * 2, none⟩ = some v := ⟨_, hf.cell (by omega)⟩
      have hm2 := hm1.name hlt s
      obtain ⟨f2, hf2, hgh, hj2⟩ := id hm2
      obtain ⟨_, b, h2, h3, h4, fb, h5⟩ := hj2 k hlt
      have c2 : (w1.setCell ⟨g, k * 2, none⟩ (.string s)).cell? ⟨g, k * 2 + 1, none⟩ = some (.slice (some ⟨b, 0, none⟩) (atK l k).vl.length (atK l k).vl.length) := by
        have := hf2.cell (show k * 2 + 1 < l.length * 2 by omega)
        rw [this, h2]
      have KB := Hid.mk' (markByteS_row b (atK l k).vl.length (atK l k).vl.length (atK l k).vl.length (q + 1) fb _ h5 (Nat.le_refl _) (by omega))
      have HK2 := Hid.mk' (HK1.out.setCell (p := ⟨g, k * 2, none⟩) (Nat.le_refl _) hgh (.string s))
      have M2 := Hid.mk' hm2
      have H5 := Hid.mk' h5
      clear hm1 hm2 hf hf2 hj2 h5 hb KT HR HK HK1
      generalize hV : w1.setCell ⟨g, k * 2, none⟩ (.string s) = V at *
      go_wp2_with fail
      clear hV
      refine KB.out.mono ?_
      rintro e w2 ⟨rfl, hr, hkk⟩
      have M3 := Hid.mk' (M2.out.value h3 h4 hr H5.out hkk)
      have HK3 := Hid.mk' (HK2.out.trans (hkk.mono (by omega) (by omega)))
      clear hr hkk KB M2 H5 HK2
      go_wp2
      go_roundw
      case rel => exact ⟨k + 1, by omega, by go_num, by rw [Q1.out]; simp, M3.out, HK3.out⟩
      case measure => simp [intOf]; omega
    · have ci : ¬ (k : Int) < (l.length : Int) := by omega
      have e : k = l.length := by omega
      subst e
      go_wp2
      go_ret
      exact ⟨by simp, HR.out, HK.out⟩

/-- What lies from g on and below hi stays. -/
theorem MR.keep {hi g : Nat} {l : List AT} {w w' : World} (h : MR g hi l w) (hk : ∀ k, g ≤ k → k < hi → k < w.heap.size → w'.heap[k]? = w.heap[k]?) : MR g hi l w' := by
  obtain ⟨f, hf, hg, hj⟩ := h
  refine ⟨f, hf.of_block (hk g (Nat.le_refl _) hg hf.lt), hg, fun j hl => ?_⟩
  obtain ⟨h1, b, h2, h3, h4, fb, h5⟩ := hj j hl
  exact ⟨h1, b, h2, h3, h4, fb, h5.of_block (hk b (by omega) h4 h5.lt)⟩

theorem MR.lt {hi g : Nat} {l : List AT} {w : World} (h : MR g hi l w) : g < hi := by obtain ⟨_, _, h, _⟩ := h; exact h

theorem AOh.mr {hi g : Nat} {l : List AT} {w : World} (h : AOh hi g l w) : MR g hi l w := by
  obtain ⟨f, hf, hg, hj⟩ := h
  refine ⟨f, hf, hg, fun j hl => ?_⟩
  obtain ⟨h1, b, h2, h3, h4, h5⟩ := hj j hl
  exact ⟨⟨_, h1⟩, b, h2, h3, h4, _, h5⟩

/-- A node of one's own, whatever it holds; its rows lie from lo on and below hi. -/
def MO (lo hi : Nat) (t : ND) (f : Nat → Value) (j : Nat) (w : World) : Prop :=
  (∃ u, f (j * 4) = .int .i64 u) ∧ (∃ s, f (j * 4 + 1) = .string s) ∧ ∃ g b, f (j * 4 + 2) = .slice (some ⟨g, 0, none⟩) t.at_.length t.at_.length ∧ f (j * 4 + 3) = .slice (some ⟨b, 0, none⟩) t.tx.length t.tx.length ∧ lo ≤ g ∧ b < hi ∧ MR g b t.at_ w ∧ ∃ fb, w.rowIs b 5 t.tx.length fb

theorem MO.keep {lo hi : Nat} {t : ND} {f f' : Nat → Value} {j : Nat} {w w' : World} (h : MO lo hi t f j w) (hf : ∀ i, i < 4 → f' (j * 4 + i) = f (j * 4 + i)) (hk : ∀ k, lo ≤ k → k < hi → k < w.heap.size → w'.heap[k]? = w.heap[k]?) : MO lo hi t f' j w' := by
  obtain ⟨⟨u, h1⟩, ⟨s, h2⟩, g, b, h3, h4, h5, h6, h7, fb, h8⟩ := h
  have hl := h7.lt
  exact ⟨⟨u, (hf 0 (by omega)).trans h1⟩, ⟨s, (hf 1 (by omega)).trans h2⟩, g, b, (hf 2 (by omega)).trans h3, (hf 3 (by omega)).trans h4, h5, h6, h7.keep (fun k a c d => hk k (by omega) (by omega) d), fb, h8.of_block (hk b (by omega) h6 h8.lt)⟩

/-- Nodes of one's own at g, whatever they hold; hi: behind all their rows. -/
def NM (g hi : Nat) (l : List ND) (w : World) : Prop := ∃ (f : Nat → Value) (s : Nat → Nat), w.rowIs g 104 (l.length * 4) f ∧ g < s 0 ∧ s l.length = hi ∧ hi ≤ w.heap.size ∧ (∀ j, j < l.length → s j ≤ s (j + 1)) ∧ ∀ j, j < l.length → MO (s j) (s (j + 1)) (ndK l j) f j w

theorem NR.nm {w wr : World} {l : List ND} (h : NR w l l.length wr) : ∃ hi, w.heap.size < hi ∧ hi ≤ wr.heap.size ∧ NM w.heap.size hi l wr := by
  obtain ⟨f, s, hf, h0, h1, h2, hj⟩ := h.row
  refine ⟨s l.length, Nat.lt_of_lt_of_le h0 (mono_s h2 _ (Nat.le_refl _)), h1, f, s, hf, h0, rfl, h1, h2, fun j hl => ?_⟩
  obtain ⟨e1, e2, g, b, e3, e4, h5, h6, h7, h8⟩ := hj j hl
  exact ⟨⟨_, e1⟩, ⟨_, e2⟩, g, b, e3, e4, h5, h6, h7.mr, _, h8⟩

theorem mono_s2 {s : Nat → Nat} {n : Nat} (h : ∀ j, j < n → s j ≤ s (j + 1)) {i : Nat} : ∀ j, i ≤ j → j ≤ n → s i ≤ s j
  | 0, hi, _ => by have : i = 0 := by omega
                   subst this; exact Nat.le_refl _
  | j + 1, hi, hj => by
    by_cases e : i = j + 1
    · subst e; exact Nat.le_refl _
    · exact Nat.le_trans (mono_s2 h j (by omega) (by omega)) (h j (by omega))

/-- What is below the nodes or behind them may turn. -/
theorem NM.keep {g hi : Nat} {l : List ND} {w w' : World} (h : NM g hi l w) (hs : w.heap.size ≤ w'.heap.size) (hk : ∀ k, g ≤ k → k < hi → k < w.heap.size → w'.heap[k]? = w.heap[k]?) : NM g hi l w' := by
  obtain ⟨f, s, hf, h0, h1, h2, h3, hj⟩ := h
  have m0 := mono_s2 h3 (i := 0) l.length (by omega) (Nat.le_refl _)
  refine ⟨f, s, hf.of_block (hk g (Nat.le_refl _) (by omega) hf.lt), h0, h1, Nat.le_trans h2 hs, h3, fun j hl => (hj j hl).keep (fun _ _ => rfl) (fun i a c d => ?_)⟩
  have m1 := mono_s2 h3 (i := 0) j (by omega) (by omega)
  have m2 := mono_s2 h3 (i := j + 1) l.length (by omega) (Nat.le_refl _)
  exact hk i (by omega) (by omega) d

/-- A cell of the row of nodes is turned, that holds a number or a text. -/
theorem NM.cell {g hi k i : Nat} {l : List ND} {w : World} {v : Value} (h : NM g hi l w) (hk : k < l.length) (hi2 : i < 2) (hv : (i = 0 ∧ ∃ u, v = .int .i64 u) ∨ (i = 1 ∧ ∃ s, v = .string s)) : NM g hi l (w.setCell ⟨g, k * 4 + i, none⟩ v) := by
  obtain ⟨f, s, hf, h0, h1, h2, h3, hj⟩ := h
  have K : KeptIn g (g + 1) w (w.setCell ⟨g, k * 4 + i, none⟩ v) := (KeptIn.refl _ _ w).setCell (p := ⟨g, k * 4 + i, none⟩) (Nat.le_refl _) (Nat.lt_succ_self _) _
  refine ⟨_, s, hf.set (k * 4 + i) v, h0, h1, by simpa [World.setCell] using h2, h3, fun j hl => ?_⟩
  have m1 := mono_s2 h3 (i := 0) j (by omega) (by omega)
  have kp : ∀ q, s j ≤ q → q < s (j + 1) → q < w.heap.size → (w.setCell ⟨g, k * 4 + i, none⟩ v).heap[q]? = w.heap[q]? := fun q a c d => K.block q d (by omega)
  by_cases e : j = k
  · subst e
    obtain ⟨⟨u, e1⟩, ⟨s', e2⟩, g', b, e3, e4, h5, h6, h7, fb, h8⟩ := hj j hl
    have hlt := h7.lt
    refine ⟨?_, ?_, g', b, ?_, ?_, h5, h6, h7.keep (fun q a c d => kp q (by omega) (by omega) d), fb, h8.of_block (kp b (by omega) h6 h8.lt)⟩
    · rcases hv with ⟨rfl, u', rfl⟩ | ⟨rfl, s'', rfl⟩
      · exact ⟨u', by dsimp only; rw [if_pos (by omega)]⟩
      · exact ⟨u, by dsimp only; rw [if_neg (by omega)]; exact e1⟩
    · rcases hv with ⟨rfl, u', rfl⟩ | ⟨rfl, s'', rfl⟩
      · exact ⟨s', by dsimp only; rw [if_neg (by omega)]; exact e2⟩
      · exact ⟨s'', by dsimp only; rw [if_pos rfl]⟩
    · dsimp only; rw [if_neg (by omega)]; exact e3
    · dsimp only; rw [if_neg (by omega)]; exact e4
  · exact (hj j hl).keep (fun q hq => by rw [if_neg (by omega)]) kp

/-- The attributes of one node are marked. -/
theorem NM.attrs {g hi k : Nat} {l : List ND} {w : World} (h : NM g hi l w) (hk : k < l.length) : ∃ ga b, w.cell? ⟨g, k * 4 + 2, none⟩ = some (.slice (some ⟨ga, 0, none⟩) (ndK l k).at_.length (ndK l k).at_.length) ∧ w.cell? ⟨g, k * 4 + 3, none⟩ = some (.slice (some ⟨b, 0, none⟩) (ndK l k).tx.length (ndK l k).tx.length) ∧ g < ga ∧ ga < b ∧ b < hi ∧ hi ≤ w.heap.size ∧ MR ga b (ndK l k).at_ w ∧ (∃ fb, w.rowIs b 5 (ndK l k).tx.length fb) ∧
    (∀ w', KeptIn ga b w w' → MR ga b (ndK l k).at_ w' → NM g hi l w') ∧ (∀ w' fb', KeptIn b (b + 1) w w' → w'.rowIs b 5 (ndK l k).tx.length fb' → NM g hi l w') := by
  obtain ⟨f, s, hf, h0, h1, h2, h3, hj⟩ := h
  obtain ⟨e1, e2, ga, b, e3, e4, h5, h6, h7, fb, h8⟩ := hj k hk
  have hlt := h7.lt
  have m0 := mono_s2 h3 (i := 0) k (by omega) (by omega)
  have m2 := mono_s2 h3 (i := k + 1) l.length (by omega) (Nat.le_refl _)
  have others : ∀ (w' : World) (lo' hi' : Nat), KeptIn lo' hi' w w' → s k ≤ lo' → hi' ≤ s (k + 1) → ∀ j, j < l.length → ¬ j = k → MO (s j) (s (j + 1)) (ndK l j) f j w' := fun w' lo' hi' K a c j hl hne =>
    (hj j hl).keep (fun _ _ => rfl) (fun q x y z => K.block q z (by
      rcases Nat.lt_or_gt_of_ne hne with hlt' | hgt
      · have := mono_s2 h3 (i := j + 1) k (by omega) (by omega); omega
      · have := mono_s2 h3 (i := k + 1) j (by omega) (by omega); omega))
  refine ⟨ga, b, by rw [hf.cell (by omega), e3], by rw [hf.cell (by omega), e4], by omega, hlt, by omega, h2, h7, ⟨fb, h8⟩, fun w' K hM => ?_, fun w' fb' K hR => ?_⟩
  · refine ⟨f, s, rowK hf K (.inl (by omega)), h0, h1, Nat.le_trans h2 K.size, h3, fun j hl => ?_⟩
    by_cases e : j = k
    · subst e
      exact ⟨e1, e2, ga, b, e3, e4, h5, h6, hM, fb, rowK h8 K (.inr (Nat.le_refl _))⟩
    · exact others w' ga b K h5 (by omega) j hl e
  · refine ⟨f, s, rowK hf K (.inl (by omega)), h0, h1, Nat.le_trans h2 K.size, h3, fun j hl => ?_⟩
    by_cases e : j = k
    · subst e
      exact ⟨e1, e2, ga, b, e3, e4, h5, h6, h7.keep (fun q x y z => K.block q z (by omega)), fb', hR⟩
    · exact others w' b (b + 1) K (by omega) (by omega) j hl e

theorem vsz_asz (l : List AT) : vsz l ≤ asz l := by have := vsz_le l l.length; rwa [List.take_length] at this

set_option maxHeartbeats 3200000 in
theorem markNodeS_any (g hi c : Nat) (l : List ND) (w : World) (h : NM g hi l w) (hl : (l.length : Int) + nssz l ≤ 1048576) :
    Calls Tryz.prog 47 #[.slice (some ⟨g, 0, none⟩) l.length c, .int .i64 1] w fun e w' => (∃ z : Nat, e = .returned (.int .i64 (z : Int))) ∧ KeptIn g hi w w' := by
  have HM := Hid.mk' h
  clear h
  go_enter Tryz.func47, Tryz.ntmps47
  go_wp2
  go_loopw [1, 5] (fun x i wr => ∃ k z : Nat, k ≤ l.length ∧ i = .int .i64 k ∧ x = .int .i64 (z : Int) ∧ 0 < z ∧ z ≤ 1 + 2 * k + nssz (l.take k) ∧ NM g hi l wr ∧ KeptIn g hi w wr) (fun _ i _ => l.length - (intOf i).toNat)
  case atStart => exact ⟨0, 1, Nat.zero_le _, rfl, rfl, by omega, by omega, HM.out, KeptIn.refl _ _ _⟩
  case round =>
    obtain ⟨k, z, hk, rfl, rfl, z0, z1, hnm, hkp⟩ := hrel
    by_cases hlt : k < l.length
    · have ci : (k : Int) < (l.length : Int) := by omega
      have st := nssz_take l k hlt
      have sl := nssz_le l (k + 1)
      unfold nsz at st
      have vz := vsz_asz (ndK l k).at_
      have gh : g < hi := by obtain ⟨f, s, _, h0, h1, _, h3, _⟩ := hnm; have := mono_s2 h3 (i := 0) l.length (by omega) (Nat.le_refl _); omega
      have hn1 : NM g hi l (wr.setCell ⟨g, k * 4, none⟩ (.int .i64 (z : Int))) := hnm.cell (i := 0) hlt (by omega) (.inl ⟨rfl, _, rfl⟩)
      have hk1 : KeptIn g hi w (wr.setCell ⟨g, k * 4, none⟩ (.int .i64 (z : Int))) := hkp.setCell (p := ⟨g, k * 4, none⟩) (Nat.le_refl _) gh _
      obtain ⟨f, _, hf, _⟩ := id hnm
      have f0 := hf.frozen (k * 4)
      obtain ⟨v0, g0⟩ : ∃ v, wr.cell? ⟨g, k * 4, none⟩ = some v := ⟨_, hf.cell (by omega)⟩
      have HN := Hid.mk' hn1
      have HK := Hid.mk' hk1
      have KT := Hid.mk' (markText_any (z + 1) (wr.setCell ⟨g, k * 4, none⟩ (.int .i64 (z : Int))) (by omega) (by omega))
      clear hn1 hk1 hnm hkp hf
      generalize hV : wr.setCell ⟨g, k * 4, none⟩ (.int .i64 (z : Int)) = V at *
      go_wp2_with fail
      clear hV
      refine KT.out.mono ?_
      rintro e w1 ⟨sx, rfl, hb⟩
      have hn2 := HN.out.keep hb.size (fun q _ _ hq => hb.block q hq)
      have hn3 : NM g hi l (w1.setCell ⟨g, k * 4 + 1, none⟩ (.string sx)) := hn2.cell (i := 1) hlt (by omega) (.inr ⟨rfl, _, rfl⟩)
      have hk3 : KeptIn g hi w (w1.setCell ⟨g, k * 4 + 1, none⟩ (.string sx)) := (HK.out.trans (KeptIn.of_below hb)).setCell (p := ⟨g, k * 4 + 1, none⟩) (Nat.le_refl _) gh _
      obtain ⟨f2, _, hf2, _⟩ := id hn2
      have f1 := hf2.frozen (k * 4 + 1)
      obtain ⟨v1, g1⟩ : ∃ v, w1.cell? ⟨g, k * 4 + 1, none⟩ = some v := ⟨_, hf2.cell (by omega)⟩
      obtain ⟨ga, b, a1, a2, a3, a4, a5, a6, a7, _, a9, _⟩ := hn3.attrs hlt
      have KA := Hid.mk' (markAttrS_gen ga b (ndK l k).at_.length (z + 1 + 1) (ndK l k).at_ _ a7 (by omega) (by omega) (by omega) (by omega))
      have HA := Hid.mk' a9
      have HK := Hid.mk' hk3
      clear hn2 hn3 hk3 hf2 hb KT HN a7 a9
      generalize hV2 : w1.setCell ⟨g, k * 4 + 1, none⟩ (.string sx) = V2 at *
      go_wp2_with fail
      clear hV2
      refine KA.out.mono ?_
      rintro e w2 ⟨rfl, hmr, hkk⟩
      have hn4 := HA.out w2 hkk hmr
      have HK := Hid.mk' (HK.out.trans (hkk.mono (by omega) (by omega)))
      obtain ⟨ga2, b2, c1, c2, c3, c4, c5, c6, c7, ⟨fb, c8⟩, _, c10⟩ := hn4.attrs hlt
      obtain ⟨z2, hz2⟩ : ∃ z2 : Nat, z + 1 + 1 + (ndK l k).at_.length + vsz (ndK l k).at_ = z2 := ⟨_, rfl⟩
      have KB := Hid.mk' (markByteS_row b2 (ndK l k).tx.length (ndK l k).tx.length (ndK l k).tx.length z2 fb w2 c8 (Nat.le_refl _) (by omega))
      have H10 := Hid.mk' c10
      have ez : ((z + 1 + 1 : Nat) : Int) + ((ndK l k).at_.length : Int) + (vsz (ndK l k).at_ : Int) = (z2 : Int) := by omega
      rw [ez]
      clear hkk hmr KA HA c7 c8 c10 hn4 ez a1 a2
      go_wp2_with fail
      refine KB.out.mono ?_
      rintro e w3 ⟨rfl, hr, hkk⟩
      have N5 := Hid.mk' (H10.out w3 _ hkk hr)
      have HK := Hid.mk' (HK.out.trans (hkk.mono (by omega) (by omega)))
      clear hkk hr KB H10
      go_wp2
      go_roundw
      case rel => exact ⟨k + 1, z2 + (ndK l k).tx.length, by omega, by go_num, by congr 1, by omega, by omega, N5.out, HK.out⟩
      case measure => simp [intOf]; omega
    · have ci : ¬ (k : Int) < (l.length : Int) := by omega
      have HK := Hid.mk' hkp
      clear hnm hkp
      go_wp2
      go_ret
      exact ⟨⟨z, rfl⟩, HK.out⟩

end Go.Proofs.YtpcpnfpnkkjkcaaGreat

/- The model's side of a tree's fault: what a node is in, how deep it is, what it is. -/
namespace Go.Proofs.YtpcpnfpnkkjkcaaGreat
open Go.RowKit
set_option linter.unusedVariables false
set_option linter.unusedSimpArgs false

/-- The Up of the k-th. -/
def upF (l : List ND) (k : Nat) : Int := (ndK l k).up

/-- All ahead of the k-th have an Up that is so. -/
def Ways (l : List ND) (k : Nat) : Prop := ∀ j, j < k → depU (upF l) j < (wayU (upF l) j).length

theorem Ways.good {l : List ND} {k : Nat} (h : Ways l k) : GoodW (upF l) k (wayU (upF l) k) := good_way _ _ h

theorem Ways.mono {l : List ND} {k j : Nat} (h : Ways l k) (hj : j ≤ k) : Ways l j := fun i hi => h i (by omega)

/-- Is the number one of a way? -/
def inW (W : List Int) (x : Int) : Bool := decide (ixF W x < W.length)

set_option maxHeartbeats 800000 in
theorem l6In_any (a : Option Addr) (c : Nat) (l : List ND) (k : Nat) (x : Int) (w : World) (ha : NsAt w a l) (hk : k ≤ l.length) (hW : Ways l k) (hl : (l.length : Int) ≤ 1048576) :
    Calls Tryz.prog 57 #[.slice a l.length c, .int .i64 ((k : Int) - 1), .int .i64 x] w fun e w' => e = .returned (.bool (inW (wayU (upF l) k) x)) ∧ w' = w := by
  have G := hW.good
  have HG := Hid.mk' G
  obtain ⟨W, hWe⟩ : ∃ W, wayU (upF l) k = W := ⟨_, rfl⟩
  rw [hWe] at HG G
  rw [hWe]
  have e0 := G.last
  have l0 := G.ne
  clear hWe G hW
  rw [← e0]
  go_enter Tryz.func57, Tryz.ntmps57
  go_wp2
  go_loop [1] (fun i => ∃ p : Nat, p < W.length ∧ i = .int .i64 (wv W p) ∧ ∀ q, p < q → q < W.length → ¬ wv W q = x) (fun i => (intOf i + 1).toNat)
  case atStart => exact ⟨W.length - 1, by omega, rfl, fun q h1 h2 => by omega⟩
  case round =>
    obtain ⟨p, hp, rfl, hn⟩ := hrel
    have HN := Hid.mk' hn
    have lo := HG.out.lo hp
    have hi := HG.out.hi hp
    clear hn e0
    by_cases e : wv W p = x
    · have E : Hid (inW W x = true) := Hid.mk' (by
        unfold inW
        rw [← e, HG.out.ix hp]
        exact decide_eq_true hp)
      by_cases c1 : wv W p ≥ 0
      · go_wp2
        go_ret
        exact ⟨by rw [E.out]; simp [e], rfl⟩
      · go_wp2
        go_ret
        exact ⟨by rw [E.out]; simp [e], rfl⟩
    · by_cases c1 : wv W p ≥ 0
      · have hp0 : 0 < p := by
          rcases Nat.eq_zero_or_pos p with h | h
          · subst h; rw [HG.out.hd] at c1; omega
          · exact h
        obtain ⟨h0, h1, h2⟩ := HG.out.ch (p - 1) (by omega)
        rw [show p - 1 + 1 = p by omega] at h0 h1 h2
        obtain ⟨m, hm⟩ : ∃ m : Nat, wv W p = (m : Int) := ⟨(wv W p).toNat, by omega⟩
        rw [hm] at e c1 hi h0 h1 h2 ⊢
        rw [Int.toNat_natCast] at h1
        have hml : m < l.length := by omega
        rcases ha with ha | ⟨b, o, rfl, hbs, hc⟩
        · rw [ha] at hml; exact absurd hml (Nat.not_lt_zero _)
        obtain ⟨q1, _⟩ := hc m hml
        have ci : (m : Int) < (l.length : Int) := by omega
        have H1 := Hid.mk' h1
        have H2 := Hid.mk' h2
        have q1' : w.cell? ⟨b, o + m * 4, none⟩ = some (.int .i64 (wv W (p - 1))) := by rw [q1, h1]; rfl
        have EP := Hid.mk' hm
        have EX := Hid.mk' e
        clear hc q1 h1 h2 lo hm
        go_wp2
        go_round
        case rel => exact ⟨p - 1, by omega, rfl, fun q h3 h4 => by
          by_cases h : q = p
          · subst h; rw [EP.out]; exact EX.out
          · exact HN.out q (by omega) h4⟩
        case measure =>
          have h1 := H2.out
          have h2 := HG.out.lo (i := p - 1) (by omega)
          simp only [intOf]; omega
      · have hp0 : p = 0 := by
          rcases Nat.eq_zero_or_pos p with h | h
          · exact h
          · exact absurd (HG.out.pos h hp) c1
        subst hp0
        have E : Hid (inW W x = false) := Hid.mk' (by
          unfold inW
          rw [ixF_none W x (fun j hj => by
            by_cases h : j = 0
            · subst h; exact e
            · exact HN.out j (by omega) hj)]
          exact decide_eq_false (by omega))
        go_wp2
        go_ret
        exact ⟨by rw [E.out]; simp [e], rfl⟩

set_option maxHeartbeats 800000 in
theorem l6Depth_any (a : Option Addr) (c : Nat) (l : List ND) (k : Nat) (w : World) (ha : NsAt w a l) (hk : k < l.length) (hW : Ways l k) (hd : depU (upF l) k < (wayU (upF l) k).length) (hl : (l.length : Int) ≤ 1048576) :
    Calls Tryz.prog 111 #[.slice a l.length c, .int .i64 (k : Int)] w fun e w' => e = .returned (.int .i64 (depU (upF l) k : Int)) ∧ w' = w := by
  have G := hW.good
  have hat : wv (wayU (upF l) k) (depU (upF l) k) = (ndK l k).up := ixF_at hd
  obtain ⟨W, hWe⟩ : ∃ W, wayU (upF l) k = W := ⟨_, rfl⟩
  obtain ⟨d, hde⟩ : ∃ d, depU (upF l) k = d := ⟨_, rfl⟩
  rw [hWe] at G hat hd
  rw [hde] at hat hd
  rw [hde]
  have HG := Hid.mk' G
  have hle := G.le
  clear hWe hde G hW
  rcases ha with ha | ⟨b, o, rfl, hbs, hc⟩
  · rw [ha] at hk; exact absurd hk (Nat.not_lt_zero _)
  obtain ⟨q1, _⟩ := hc k hk
  rw [← hat] at q1
  have HC := Hid.mk' hc
  have ck : (k : Int) < (l.length : Int) := by omega
  clear hat hc
  go_enter Tryz.func111, Tryz.ntmps111
  go_wp2
  go_loop [1, 5] (fun i n => ∃ p : Nat, p ≤ d ∧ i = .int .i64 (wv W p) ∧ n = .int .i64 ((d - p : Nat) : Int)) (fun i _ => (intOf i + 1).toNat)
  case atStart => exact ⟨d, Nat.le_refl _, rfl, by simp⟩
  case round =>
    obtain ⟨p, hp, rfl, rfl⟩ := hrel
    have lo := HG.out.lo (i := p) (by omega)
    have hi := HG.out.hi (i := p) (by omega)
    by_cases c1 : wv W p ≥ 0
    · have hp0 : 0 < p := by
        rcases Nat.eq_zero_or_pos p with h | h
        · subst h; rw [HG.out.hd] at c1; omega
        · exact h
      obtain ⟨h0, h1, h2⟩ := HG.out.ch (p - 1) (by omega)
      rw [show p - 1 + 1 = p by omega] at h0 h1 h2
      obtain ⟨m, hm⟩ : ∃ m : Nat, wv W p = (m : Int) := ⟨(wv W p).toNat, by omega⟩
      rw [hm] at c1 hi h0 h1 h2 ⊢
      rw [Int.toNat_natCast] at h1
      have hml : m < l.length := by omega
      obtain ⟨q2, _⟩ := HC.out m hml
      have ci : (m : Int) < (l.length : Int) := by omega
      have H1 := Hid.mk' h1
      have H2 := Hid.mk' h2
      have q2' : w.cell? ⟨b, o + m * 4, none⟩ = some (.int .i64 (wv W (p - 1))) := by rw [q2, h1]; rfl
      clear q2 h1 h2 lo hm q1
      go_wp2
      go_round
      case rel => exact ⟨p - 1, by omega, rfl, by go_num⟩
      case measure =>
        have h1 := H2.out
        have h2 := HG.out.lo (i := p - 1) (by omega)
        simp only [intOf]; omega
    · have hp0 : p = 0 := by
        rcases Nat.eq_zero_or_pos p with h | h
        · exact h
        · exact absurd (HG.out.pos h (by omega)) c1
      subst hp0
      go_wp2
      go_ret
      exact ⟨rfl, rfl⟩

/-- An element or a text. -/
def kindB (t : ND) : Bool := if (t.tg.toList == []) = true then decide (t.at_.length = 0) && decide (1 ≤ (t.tx.length : Int)) && decide ((t.tx.length : Int) ≤ 240) else decide (t.tx.length = 0)

set_option maxHeartbeats 1600000 in
theorem l6Kind_any (t : ND) (b o : Nat) (p p' : Option Addr) (d d' : Nat) (w : World) (h1 : w.cell? ⟨b, o + 1, none⟩ = some (.string t.tg)) (h2 : w.cell? ⟨b, o + 2, none⟩ = some (.slice p t.at_.length d)) (h3 : w.cell? ⟨b, o + 3, none⟩ = some (.slice p' t.tx.length d')) :
    Calls Tryz.prog 110 #[.pointer (some ⟨b, o, none⟩)] w fun e w' => e = .returned (.bool (kindB t)) ∧ w' = w := by
  obtain ⟨n, hn⟩ : ∃ n, t.at_.length = n := ⟨_, rfl⟩
  obtain ⟨m, hm⟩ : ∃ m, t.tx.length = m := ⟨_, rfl⟩
  have E : kindB t = if (t.tg.toList == []) = true then decide (n = 0) && decide (1 ≤ (m : Int)) && decide ((m : Int) ≤ 240) else decide (m = 0) := by
    unfold kindB
    rw [hm, hn]
  rw [hn] at h2
  rw [hm] at h3
  rw [E]
  clear E hn hm
  cases e1 : (t.tg.toList == [])
  · by_cases e2 : (m : Int) = 0
    all_goals
      go_enter Tryz.func110, Tryz.ntmps110
      go_wp2_with go_big_skip
      go_ret
      exact ⟨by first | (simp; done) | (simp; omega) | (have h0 : ¬ m = 0 := (by omega); simp [h0, e2]; done), rfl⟩
  · by_cases e2 : (n : Int) = 0
    · by_cases e3 : (m : Int) ≥ 1
      · by_cases e4 : (m : Int) ≤ 240
        all_goals
          go_enter Tryz.func110, Tryz.ntmps110
          go_wp2_with go_big_skip
          go_ret
          exact ⟨by first | (simp; done) | (simp; omega) | (have h0 : ¬ m = 0 := (by omega); simp [h0, e2]; done), rfl⟩
      · go_enter Tryz.func110, Tryz.ntmps110
        go_wp2_with go_big_skip
        go_ret
        exact ⟨by first | (simp; done) | (simp; omega) | (have h0 : ¬ m = 0 := (by omega); simp [h0, e2]; done), rfl⟩
    · go_enter Tryz.func110, Tryz.ntmps110
      go_wp2_with go_big_skip
      go_ret
      exact ⟨by first | (simp; done) | (simp; omega) | (have h0 : ¬ m = 0 := (by omega); simp [h0, e2]; done), rfl⟩

end Go.Proofs.YtpcpnfpnkkjkcaaGreat

/- The code of a tree, as one function. -/
namespace Go.Proofs.YtpcpnfpnkkjkcaaGreat
open Go.RowKit
set_option linter.unusedVariables false
set_option linter.unusedSimpArgs false

/-- What is wrong with a node by itself. -/
def markF (t : ND) : Int := if kindB t = true then (if (t.tg.toList == []) = true then 0 else if nmB t.tg = true then afault t.at_ else 5) else 1

/-- May others be in it? -/
def holdB (t : ND) : Bool := !(t.tg.toList == []) && !voidB t.tg

/-- A text right behind a text. -/
def sideB (l : List ND) (k : Nat) : Bool := decide (0 < k) && ((ndK l k).tg.toList == []) && ((ndK l (k - 1)).tg.toList == []) && decide ((ndK l (k - 1)).up = (ndK l k).up)

/-- What is wrong with its place. -/
def placeF (l : List ND) (k : Nat) : Int :=
  if depU (upF l) k < (wayU (upF l) k).length then
    (if 0 ≤ (ndK l k).up ∧ holdB (ndK l (ndK l k).up.toNat) = false then 1
     else if sideB l k = true then 1 else if 8 ≤ depU (upF l) k then 2 else 0)
  else 3

/-- The code of the k-th. -/
def oneF (l : List ND) (k : Nat) : Int := if markF (ndK l k) = 0 then placeF l k else markF (ndK l k)

/-- The code of a tree. -/
def treeF (l : List ND) : Int := if 60 < l.length then 2 else firstF (oneF l) l.length 0

theorem inW_iff (l : List ND) (k : Nat) : inW (wayU (upF l) k) (ndK l k).up = decide (depU (upF l) k < (wayU (upF l) k).length) := rfl

theorem oneF_dep {l : List ND} {k : Nat} (h : oneF l k = 0) : depU (upF l) k < (wayU (upF l) k).length := by
  unfold oneF at h
  split at h
  · unfold placeF at h
    split at h
    · assumption
    · exact absurd h (by decide)
  · contradiction

theorem ways_of {l : List ND} {k : Nat} (h : ∀ j, j < k → oneF l j = 0) : Ways l k := fun j hj => oneF_dep (h j hj)

theorem oneF_mark {l : List ND} {k : Nat} {c : Int} (h : markF (ndK l k) = c) (hc : ¬ c = 0) : oneF l k = c := by
  unfold oneF; rw [h, if_neg hc]

theorem oneF_place {l : List ND} {k : Nat} (h : markF (ndK l k) = 0) : oneF l k = placeF l k := by
  unfold oneF; rw [if_pos h]

theorem treeF_len {l : List ND} (h : treeF l = 0) : l.length ≤ 60 := by
  unfold treeF at h
  split at h
  · exact absurd h (by decide)
  · omega

theorem firstF_zero (f : Nat → Int) : ∀ (n i : Nat), firstF f n i = 0 → ∀ j, j < n → f (i + j) = 0
  | 0, _, _, j, hj => absurd hj (Nat.not_lt_zero _)
  | n + 1, i, h, j, hj => by
    unfold firstF at h
    split at h
    · rename_i h0
      cases j with
      | zero => exact h0
      | succ j => rw [show i + (j + 1) = i + 1 + j by omega]; exact firstF_zero f n (i + 1) h j (by omega)
    · contradiction

theorem treeF_ones {l : List ND} (h : treeF l = 0) : ∀ j, j < l.length → oneF l j = 0 := by
  have hl := treeF_len h
  unfold treeF at h
  rw [if_neg (by omega)] at h
  intro j hj
  have := firstF_zero _ _ _ h j hj
  rwa [Nat.zero_add] at this

theorem treeF_ways {l : List ND} (h : treeF l = 0) : Ways l l.length := ways_of (treeF_ones h)

theorem treeF_hit {l : List ND} {k : Nat} {c : Int} (hl : ¬ 60 < l.length) (hk : k < l.length) (hz : ∀ j, j < k → oneF l j = 0) (hc : oneF l k = c) (h0 : ¬ c = 0) : treeF l = c := by
  unfold treeF
  rw [if_neg hl, firstF_hit (oneF l) l.length 0 k hk (fun j hj => by rw [Nat.zero_add]; exact hz j hj) (by rw [Nat.zero_add, hc]; exact h0), Nat.zero_add, hc]

theorem treeF_none {l : List ND} (hl : ¬ 60 < l.length) (hz : ∀ j, j < l.length → oneF l j = 0) : treeF l = 0 := by
  unfold treeF
  rw [if_neg hl, firstF_none _ _ _ (fun j hj => by rw [Nat.zero_add]; exact hz j hj)]

/-- What is asked of a place of a tree. -/
def askF (l : List ND) (x : Int) : Int := if treeF l = 0 then (if 0 ≤ x ∧ x < (l.length : Int) then 0 else 3) else treeF l

/-- Where all ends that is deeper than the a-th. -/
def endU (d : Nat → Nat) (a : Nat) : Nat → Nat → Nat
  | 0, e => e
  | n + 1, e => if d a < d e then endU d a n (e + 1) else e

theorem endU_step {d : Nat → Nat} {a n e : Nat} (h : e < n) (hd : d a < d e) : endU d a (n - e) e = endU d a (n - (e + 1)) (e + 1) := by
  obtain ⟨m, hm⟩ : ∃ m, n - e = m + 1 := ⟨n - e - 1, by omega⟩
  rw [hm, show n - (e + 1) = m by omega]
  show (if d a < d e then endU d a m (e + 1) else e) = _
  rw [if_pos hd]

theorem endU_stop {d : Nat → Nat} {a n e : Nat} (hd : ¬ d a < d e) : endU d a n e = e := by
  cases n with
  | zero => rfl
  | succ n => show (if d a < d e then endU d a n (e + 1) else e) = _; rw [if_neg hd]

theorem endU_all {d : Nat → Nat} {a n e : Nat} (h : n ≤ e) : endU d a (n - e) e = e := by
  rw [show n - e = 0 by omega]; rfl

/-- The place behind all that is in the a-th. -/
def endN (l : List ND) (a : Nat) : Nat := endU (depU (upF l)) a (l.length - (a + 1)) (a + 1)

end Go.Proofs.YtpcpnfpnkkjkcaaGreat

/- The model's side of a tree's fault: a node in its place, and all nodes. -/
namespace Go.Proofs.YtpcpnfpnkkjkcaaGreat
open Go.RowKit
set_option linter.unusedVariables false
set_option linter.unusedSimpArgs false



set_option maxHeartbeats 8000000 in
theorem l6One_pos (a : Option Addr) (c : Nat) (l : List ND) (k : Nat) (w : World) (ha : NsAt w a l) (hk : k < l.length) (k0 : 0 < k) (hW : Ways l k) (hl : (l.length : Int) + nssz l ≤ 1048576) :
    Calls Tryz.prog 84 #[.slice a l.length c, .int .i64 (k : Int)] w fun e w' => e = .returned (.int .i64 (oneF l k)) ∧ Below w.heap.size w w' := by
  have hlen : (l.length : Int) ≤ 1048576 := by omega
  have KI0 : Hid (∀ w', Below w.heap.size w w' → Calls Tryz.prog 57 #[.slice a l.length c, .int .i64 ((k : Int) - 1), .int .i64 (ndK l k).up] w' fun e w'' => e = .returned (.bool (inW (wayU (upF l) k) (ndK l k).up)) ∧ w'' = w') := fun w' hb => l6In_any a c l k (ndK l k).up w' (ha.below hb) (by omega) hW hlen
  have KD0 : Hid (depU (upF l) k < (wayU (upF l) k).length → ∀ w', Below w.heap.size w w' → Calls Tryz.prog 111 #[.slice a l.length c, .int .i64 (k : Int)] w' fun e w'' => e = .returned (.int .i64 (depU (upF l) k : Int)) ∧ w'' = w') := fun hd w' hb => l6Depth_any a c l k w' (ha.below hb) hk hW hd hlen
  have KV0 : Hid (∀ (s : ByteArray) (w' : World), Calls Tryz.prog 85 #[.string s] w' fun e w'' => e = .returned (.bool (voidB s)) ∧ w'' = w') := fun s w' => l6Void_any s w'
  have G := hW.good
  have hsz := nssz_at hk
  rw [inW_iff] at KI0
  rcases ha with ha | ⟨b, o, rfl, hbs, hc⟩
  · rw [ha] at hk; exact absurd hk (Nat.not_lt_zero _)
  obtain ⟨c0, c1, ⟨p, d, c2, hd, hA⟩, ⟨p', d', c3, _⟩⟩ := hc k hk
  have HC := Hid.mk' hc
  have ck : (k : Int) < (l.length : Int) := by omega
  have KK := l6Kind_any (ndK l k) b (o + k * 4) p p' d d' w c1 c2 c3
  have KN := l4Name_any (ndK l k).tg w (by unfold nsz at hsz; omega)
  have KA := l4Attrs_any p d (ndK l k).at_ w hA hd (by unfold nsz at hsz; omega)
  have MU := Hid.mk' (show markF (ndK l k) = if kindB (ndK l k) = true then (if ((ndK l k).tg.toList == []) = true then 0 else if nmB (ndK l k).tg = true then afault (ndK l k).at_ else 5) else 1 from rfl)
  have PU := Hid.mk' (show placeF l k = if depU (upF l) k < (wayU (upF l) k).length then (if 0 ≤ (ndK l k).up ∧ holdB (ndK l (ndK l k).up.toNat) = false then 1 else if sideB l k = true then 1 else if 8 ≤ depU (upF l) k then 2 else 0) else 3 from rfl)
  have upb : depU (upF l) k < (wayU (upF l) k).length → -1 ≤ (ndK l k).up ∧ (ndK l k).up < k := fun h => by
    have e : wv (wayU (upF l) k) (depU (upF l) k) = (ndK l k).up := ixF_at h
    rw [← e]
    exact ⟨G.lo h, G.hi h⟩
  have SU := Hid.mk' (show sideB l k = (decide (0 < k) && ((ndK l k).tg.toList == []) && ((ndK l (k - 1)).tg.toList == []) && decide ((ndK l (k - 1)).up = (ndK l k).up)) from rfl)
  clear hc G hA hsz
  obtain ⟨y, hy⟩ : ∃ y : Int, (k : Int) - 1 = y := ⟨_, rfl⟩
  rw [hy] at KI0
  cases hkd : kindB (ndK l k) with
  | false =>
    rw [hkd] at KK
    have KK := Hid.mk' KK
    have E : Hid (oneF l k = 1) := Hid.mk' (oneF_mark (by rw [MU.out, hkd]; rfl) (by decide))
    clear KN KA upb
    go_enter Tryz.func84, Tryz.ntmps84
    go_wp2_with (first | go_big_skip | (go_at_call 110; refine KK.out.mono ?_; rintro e w9 ⟨rfl, hw9⟩; obtain rfl := hw9.symm))
    go_ret
    exact ⟨by rw [E.out]; rfl, by first | exact HB.out | exact Below.refl _ _⟩
  | true =>
    rw [hkd] at KK
    have KK := Hid.mk' KK
    cases htg : ((ndK l k).tg.toList == []) with
    | false =>
      cases hnm : nmB (ndK l k).tg with
      | false =>
        rw [hnm] at KN
        have KN := Hid.mk' KN
        have E : Hid (oneF l k = 5) := Hid.mk' (oneF_mark (by rw [MU.out, hkd, htg, hnm]; rfl) (by decide))
        clear KA upb
        go_enter Tryz.func84, Tryz.ntmps84
        go_wp2_with (first | go_big_skip | (go_at_call 110; refine KK.out.mono ?_; rintro e w9 ⟨rfl, hw9⟩; obtain rfl := hw9.symm) | (go_at_call 61; refine KN.out.mono ?_; rintro e w9 ⟨rfl, hw9⟩; obtain rfl := hw9.symm))
        go_ret
        exact ⟨by rw [E.out]; rfl, by first | exact HB.out | exact Below.refl _ _⟩
      | true =>
        rw [hnm] at KN
        have KN := Hid.mk' KN
        obtain ⟨f, hf⟩ : ∃ f, afault (ndK l k).at_ = f := ⟨_, rfl⟩
        rw [hf] at KA
        have KA := Hid.mk' KA
        by_cases hf0 : f = 0
        rotate_left
        · have E : Hid (oneF l k = f) := Hid.mk' (oneF_mark (by rw [MU.out, hkd, htg, hnm, ← hf]; rfl) hf0)
          clear upb
          go_enter Tryz.func84, Tryz.ntmps84
          go_wp2_with (first | go_big_skip | (go_at_call 110; refine KK.out.mono ?_; rintro e w9 ⟨rfl, hw9⟩; obtain rfl := hw9.symm) | (go_at_call 61; refine KN.out.mono ?_; rintro e w9 ⟨rfl, hw9⟩; obtain rfl := hw9.symm) | (go_at_call 62; refine KA.out.mono ?_; rintro e w1 ⟨rfl, hbb⟩; have HB := Hid.mk' hbb; clear hbb))
          go_ret
          exact ⟨by rw [E.out]; rfl, by first | exact HB.out | exact Below.refl _ _⟩
        rw [hf0] at KA
        have MZ : markF (ndK l k) = 0 := by rw [MU.out, hkd, htg, hnm, ← hf0, ← hf]; rfl
        clear hf0 hf MU
        have HTG := Hid.mk' htg
        have E0 := oneF_place MZ
        rw [PU.out] at E0
        clear PU MZ
        by_cases hd : depU (upF l) k < (wayU (upF l) k).length
        rotate_left
        · rw [if_neg hd] at E0
          have E := Hid.mk' E0
          rw [decide_eq_false hd] at KI0
          have KI := KI0
          clear E0 KI0 KD0 upb SU
          by_cases u1 : (ndK l k).up < -1
          · skip
            go_enter Tryz.func84, Tryz.ntmps84
            go_wp2_with (first | go_big_skip | (go_at_call 110; refine KK.out.mono ?_; rintro e w9 ⟨rfl, hw9⟩; obtain rfl := hw9.symm) | (go_at_call 61; refine KN.out.mono ?_; rintro e w9 ⟨rfl, hw9⟩; obtain rfl := hw9.symm) | (go_at_call 62; refine KA.out.mono ?_; rintro e w1 ⟨rfl, hbb⟩; have HB := Hid.mk' hbb; have d0 := (hbb.cell hbs).trans c0; have d1 := (hbb.cell hbs).trans c1; clear hbb) | (go_at_call 57; refine (KI.out _ (by first | exact HB.out | exact Below.refl _ _)).mono ?_; rintro e w9 ⟨rfl, hw9⟩; obtain rfl := hw9.symm))
            go_ret
            exact ⟨by rw [E.out]; rfl, by first | exact HB.out | exact Below.refl _ _⟩
          by_cases u2 : (ndK l k).up ≥ (k : Int)
          · skip
            go_enter Tryz.func84, Tryz.ntmps84
            go_wp2_with (first | go_big_skip | (go_at_call 110; refine KK.out.mono ?_; rintro e w9 ⟨rfl, hw9⟩; obtain rfl := hw9.symm) | (go_at_call 61; refine KN.out.mono ?_; rintro e w9 ⟨rfl, hw9⟩; obtain rfl := hw9.symm) | (go_at_call 62; refine KA.out.mono ?_; rintro e w1 ⟨rfl, hbb⟩; have HB := Hid.mk' hbb; have d0 := (hbb.cell hbs).trans c0; have d1 := (hbb.cell hbs).trans c1; clear hbb) | (go_at_call 57; refine (KI.out _ (by first | exact HB.out | exact Below.refl _ _)).mono ?_; rintro e w9 ⟨rfl, hw9⟩; obtain rfl := hw9.symm))
            go_ret
            exact ⟨by rw [E.out]; rfl, by first | exact HB.out | exact Below.refl _ _⟩
          go_enter Tryz.func84, Tryz.ntmps84
          go_wp2_with (first | go_big_skip | (go_at_call 110; refine KK.out.mono ?_; rintro e w9 ⟨rfl, hw9⟩; obtain rfl := hw9.symm) | (go_at_call 61; refine KN.out.mono ?_; rintro e w9 ⟨rfl, hw9⟩; obtain rfl := hw9.symm) | (go_at_call 62; refine KA.out.mono ?_; rintro e w1 ⟨rfl, hbb⟩; have HB := Hid.mk' hbb; have d0 := (hbb.cell hbs).trans c0; have d1 := (hbb.cell hbs).trans c1; clear hbb) | (go_at_call 57; refine (KI.out _ (by first | exact HB.out | exact Below.refl _ _)).mono ?_; rintro e w9 ⟨rfl, hw9⟩; obtain rfl := hw9.symm))
          go_ret
          exact ⟨by rw [E.out]; rfl, by first | exact HB.out | exact Below.refl _ _⟩
        obtain ⟨ub1, ub2⟩ := upb hd
        have n1 : ¬ (ndK l k).up < -1 := by omega
        have n2 : ¬ (ndK l k).up ≥ (k : Int) := by omega
        rw [if_pos hd] at E0
        rw [decide_eq_true hd] at KI0
        have KI := KI0
        have KD := Hid.mk' (KD0.out hd)
        obtain ⟨q, hq⟩ : ∃ q, depU (upF l) k = q := ⟨_, rfl⟩
        rw [hq] at E0 KD
        clear KI0 KD0 upb ub1 hd hq
        by_cases u0 : (ndK l k).up ≥ 0
        · obtain ⟨m, hm⟩ : ∃ m : Nat, (ndK l k).up = (m : Int) := ⟨(ndK l k).up.toNat, by omega⟩
          rw [hm] at c0 n1 n2 KI E0 u0 ub2
          rw [Int.toNat_natCast] at E0
          obtain ⟨c4, c5, _⟩ := HC.out m (by omega)
          have cm : (m : Int) < (l.length : Int) := by omega
          cases hh : ((ndK l m).tg.toList == []) with
          | true =>
            rw [if_pos ⟨u0, by unfold holdB; rw [hh]; rfl⟩] at E0
            have E := Hid.mk' E0
            clear E0 SU KD
            go_enter Tryz.func84, Tryz.ntmps84
            go_wp2_with (first | go_big_skip | (go_at_call 110; refine KK.out.mono ?_; rintro e w9 ⟨rfl, hw9⟩; obtain rfl := hw9.symm) | (go_at_call 61; refine KN.out.mono ?_; rintro e w9 ⟨rfl, hw9⟩; obtain rfl := hw9.symm) | (go_at_call 62; refine KA.out.mono ?_; rintro e w1 ⟨rfl, hbb⟩; have HB := Hid.mk' hbb; have d0 := (hbb.cell hbs).trans c0; have d1 := (hbb.cell hbs).trans c1; have d4 := (hbb.cell hbs).trans c4; have d5 := (hbb.cell hbs).trans c5; clear hbb) | (go_at_call 57; refine (KI.out _ (by first | exact HB.out | exact Below.refl _ _)).mono ?_; rintro e w9 ⟨rfl, hw9⟩; obtain rfl := hw9.symm))
            go_ret
            exact ⟨by rw [E.out]; rfl, by first | exact HB.out | exact Below.refl _ _⟩
          | false =>
            cases hv : voidB (ndK l m).tg with
            | true =>
              rw [if_pos ⟨u0, by unfold holdB; rw [hh, hv]; rfl⟩] at E0
              have E := Hid.mk' E0
              have KV := Hid.mk' (KV0.out (ndK l m).tg)
              rw [hv] at KV
              clear E0 SU KD
              go_enter Tryz.func84, Tryz.ntmps84
              go_wp2_with (first | go_big_skip | (go_at_call 110; refine KK.out.mono ?_; rintro e w9 ⟨rfl, hw9⟩; obtain rfl := hw9.symm) | (go_at_call 61; refine KN.out.mono ?_; rintro e w9 ⟨rfl, hw9⟩; obtain rfl := hw9.symm) | (go_at_call 62; refine KA.out.mono ?_; rintro e w1 ⟨rfl, hbb⟩; have HB := Hid.mk' hbb; have d0 := (hbb.cell hbs).trans c0; have d1 := (hbb.cell hbs).trans c1; have d4 := (hbb.cell hbs).trans c4; have d5 := (hbb.cell hbs).trans c5; clear hbb) | (go_at_call 57; refine (KI.out _ (by first | exact HB.out | exact Below.refl _ _)).mono ?_; rintro e w9 ⟨rfl, hw9⟩; obtain rfl := hw9.symm) | (go_at_call 85; refine (KV.out _).mono ?_; rintro e w9 ⟨rfl, hw9⟩; obtain rfl := hw9.symm))
              go_ret
              exact ⟨by rw [E.out]; rfl, by first | exact HB.out | exact Below.refl _ _⟩
            | false =>
              rw [if_neg (by unfold holdB; rw [hh, hv]; simp)] at E0
              have KV := Hid.mk' (KV0.out (ndK l m).tg)
              rw [hv] at KV
              rw [if_neg (by rw [SU.out, HTG.out]; simp)] at E0
              clear SU
              by_cases q8 : (q : Int) ≥ 8
              · rw [if_pos (by omega)] at E0
                have E := Hid.mk' E0
                clear E0
                go_enter Tryz.func84, Tryz.ntmps84
                go_wp2_with (first | go_big_skip | (go_at_call 110; refine KK.out.mono ?_; rintro e w9 ⟨rfl, hw9⟩; obtain rfl := hw9.symm) | (go_at_call 61; refine KN.out.mono ?_; rintro e w9 ⟨rfl, hw9⟩; obtain rfl := hw9.symm) | (go_at_call 62; refine KA.out.mono ?_; rintro e w1 ⟨rfl, hbb⟩; have HB := Hid.mk' hbb; have d0 := (hbb.cell hbs).trans c0; have d1 := (hbb.cell hbs).trans c1; have d4 := (hbb.cell hbs).trans c4; have d5 := (hbb.cell hbs).trans c5; clear hbb) | (go_at_call 57; refine (KI.out _ (by first | exact HB.out | exact Below.refl _ _)).mono ?_; rintro e w9 ⟨rfl, hw9⟩; obtain rfl := hw9.symm) | (go_at_call 85; refine (KV.out _).mono ?_; rintro e w9 ⟨rfl, hw9⟩; obtain rfl := hw9.symm))
                go_quiet (fail)
                go_wp2_with (first | go_big_skip | (go_at_call 111; refine (KD.out _ (by first | exact below_drewN HB.out _ | exact below_drewN (Below.refl _ _) _)).mono ?_; rintro e w9 ⟨rfl, hw9⟩; obtain rfl := hw9.symm))
                go_ret
                exact ⟨by rw [E.out]; rfl, by first | exact below_drewN HB.out _ | exact below_drewN (Below.refl _ _) _⟩
              · rw [if_neg (by omega)] at E0
                have E := Hid.mk' E0
                clear E0
                go_enter Tryz.func84, Tryz.ntmps84
                go_wp2_with (first | go_big_skip | (go_at_call 110; refine KK.out.mono ?_; rintro e w9 ⟨rfl, hw9⟩; obtain rfl := hw9.symm) | (go_at_call 61; refine KN.out.mono ?_; rintro e w9 ⟨rfl, hw9⟩; obtain rfl := hw9.symm) | (go_at_call 62; refine KA.out.mono ?_; rintro e w1 ⟨rfl, hbb⟩; have HB := Hid.mk' hbb; have d0 := (hbb.cell hbs).trans c0; have d1 := (hbb.cell hbs).trans c1; have d4 := (hbb.cell hbs).trans c4; have d5 := (hbb.cell hbs).trans c5; clear hbb) | (go_at_call 57; refine (KI.out _ (by first | exact HB.out | exact Below.refl _ _)).mono ?_; rintro e w9 ⟨rfl, hw9⟩; obtain rfl := hw9.symm) | (go_at_call 85; refine (KV.out _).mono ?_; rintro e w9 ⟨rfl, hw9⟩; obtain rfl := hw9.symm))
                go_quiet (fail)
                go_wp2_with (first | go_big_skip | (go_at_call 111; refine (KD.out _ (by first | exact below_drewN HB.out _ | exact below_drewN (Below.refl _ _) _)).mono ?_; rintro e w9 ⟨rfl, hw9⟩; obtain rfl := hw9.symm))
                go_ret
                exact ⟨by rw [E.out]; rfl, by first | exact below_drewN HB.out _ | exact below_drewN (Below.refl _ _) _⟩
        · rw [if_neg (fun h => u0 h.1)] at E0
          rw [if_neg (by rw [SU.out, HTG.out]; simp)] at E0
          clear SU
          by_cases q8 : (q : Int) ≥ 8
          · rw [if_pos (by omega)] at E0
            have E := Hid.mk' E0
            clear E0
            go_enter Tryz.func84, Tryz.ntmps84
            go_wp2_with (first | go_big_skip | (go_at_call 110; refine KK.out.mono ?_; rintro e w9 ⟨rfl, hw9⟩; obtain rfl := hw9.symm) | (go_at_call 61; refine KN.out.mono ?_; rintro e w9 ⟨rfl, hw9⟩; obtain rfl := hw9.symm) | (go_at_call 62; refine KA.out.mono ?_; rintro e w1 ⟨rfl, hbb⟩; have HB := Hid.mk' hbb; have d0 := (hbb.cell hbs).trans c0; have d1 := (hbb.cell hbs).trans c1; clear hbb) | (go_at_call 57; refine (KI.out _ (by first | exact HB.out | exact Below.refl _ _)).mono ?_; rintro e w9 ⟨rfl, hw9⟩; obtain rfl := hw9.symm))
            go_quiet (fail)
            go_wp2_with (first | go_big_skip | (go_at_call 111; refine (KD.out _ (by first | exact below_drewN HB.out _ | exact below_drewN (Below.refl _ _) _)).mono ?_; rintro e w9 ⟨rfl, hw9⟩; obtain rfl := hw9.symm))
            go_ret
            exact ⟨by rw [E.out]; rfl, by first | exact below_drewN HB.out _ | exact below_drewN (Below.refl _ _) _⟩
          · rw [if_neg (by omega)] at E0
            have E := Hid.mk' E0
            clear E0
            go_enter Tryz.func84, Tryz.ntmps84
            go_wp2_with (first | go_big_skip | (go_at_call 110; refine KK.out.mono ?_; rintro e w9 ⟨rfl, hw9⟩; obtain rfl := hw9.symm) | (go_at_call 61; refine KN.out.mono ?_; rintro e w9 ⟨rfl, hw9⟩; obtain rfl := hw9.symm) | (go_at_call 62; refine KA.out.mono ?_; rintro e w1 ⟨rfl, hbb⟩; have HB := Hid.mk' hbb; have d0 := (hbb.cell hbs).trans c0; have d1 := (hbb.cell hbs).trans c1; clear hbb) | (go_at_call 57; refine (KI.out _ (by first | exact HB.out | exact Below.refl _ _)).mono ?_; rintro e w9 ⟨rfl, hw9⟩; obtain rfl := hw9.symm))
            go_quiet (fail)
            go_wp2_with (first | go_big_skip | (go_at_call 111; refine (KD.out _ (by first | exact below_drewN HB.out _ | exact below_drewN (Below.refl _ _) _)).mono ?_; rintro e w9 ⟨rfl, hw9⟩; obtain rfl := hw9.symm))
            go_ret
            exact ⟨by rw [E.out]; rfl, by first | exact below_drewN HB.out _ | exact below_drewN (Below.refl _ _) _⟩
    | true =>
      have MZ : markF (ndK l k) = 0 := by rw [MU.out, hkd, htg]; rfl
      clear MU KN KA
      have HTG := Hid.mk' htg
      have E0 := oneF_place MZ
      rw [PU.out] at E0
      clear PU MZ
      by_cases hd : depU (upF l) k < (wayU (upF l) k).length
      rotate_left
      · rw [if_neg hd] at E0
        have E := Hid.mk' E0
        rw [decide_eq_false hd] at KI0
        have KI := KI0
        clear E0 KI0 KD0 upb SU
        by_cases u1 : (ndK l k).up < -1
        · skip
          go_enter Tryz.func84, Tryz.ntmps84
          go_wp2_with (first | go_big_skip | (go_at_call 110; refine KK.out.mono ?_; rintro e w9 ⟨rfl, hw9⟩; obtain rfl := hw9.symm) | (go_at_call 57; refine (KI.out _ (by first | exact HB.out | exact Below.refl _ _)).mono ?_; rintro e w9 ⟨rfl, hw9⟩; obtain rfl := hw9.symm))
          go_ret
          exact ⟨by rw [E.out]; rfl, by first | exact HB.out | exact Below.refl _ _⟩
        by_cases u2 : (ndK l k).up ≥ (k : Int)
        · skip
          go_enter Tryz.func84, Tryz.ntmps84
          go_wp2_with (first | go_big_skip | (go_at_call 110; refine KK.out.mono ?_; rintro e w9 ⟨rfl, hw9⟩; obtain rfl := hw9.symm) | (go_at_call 57; refine (KI.out _ (by first | exact HB.out | exact Below.refl _ _)).mono ?_; rintro e w9 ⟨rfl, hw9⟩; obtain rfl := hw9.symm))
          go_ret
          exact ⟨by rw [E.out]; rfl, by first | exact HB.out | exact Below.refl _ _⟩
        go_enter Tryz.func84, Tryz.ntmps84
        go_wp2_with (first | go_big_skip | (go_at_call 110; refine KK.out.mono ?_; rintro e w9 ⟨rfl, hw9⟩; obtain rfl := hw9.symm) | (go_at_call 57; refine (KI.out _ (by first | exact HB.out | exact Below.refl _ _)).mono ?_; rintro e w9 ⟨rfl, hw9⟩; obtain rfl := hw9.symm))
        go_ret
        exact ⟨by rw [E.out]; rfl, by first | exact HB.out | exact Below.refl _ _⟩
      obtain ⟨ub1, ub2⟩ := upb hd
      have n1 : ¬ (ndK l k).up < -1 := by omega
      have n2 : ¬ (ndK l k).up ≥ (k : Int) := by omega
      rw [if_pos hd] at E0
      rw [decide_eq_true hd] at KI0
      have KI := KI0
      have KD := Hid.mk' (KD0.out hd)
      obtain ⟨q, hq⟩ : ∃ q, depU (upF l) k = q := ⟨_, rfl⟩
      rw [hq] at E0 KD
      clear KI0 KD0 upb ub1 hd hq
      by_cases u0 : (ndK l k).up ≥ 0
      · obtain ⟨m, hm⟩ : ∃ m : Nat, (ndK l k).up = (m : Int) := ⟨(ndK l k).up.toNat, by omega⟩
        rw [hm] at c0 n1 n2 KI E0 u0 ub2
        rw [hm] at SU
        rw [Int.toNat_natCast] at E0
        obtain ⟨c4, c5, _⟩ := HC.out m (by omega)
        have cm : (m : Int) < (l.length : Int) := by omega
        cases hh : ((ndK l m).tg.toList == []) with
        | true =>
          rw [if_pos ⟨u0, by unfold holdB; rw [hh]; rfl⟩] at E0
          have E := Hid.mk' E0
          clear E0 SU KD
          go_enter Tryz.func84, Tryz.ntmps84
          go_wp2_with (first | go_big_skip | (go_at_call 110; refine KK.out.mono ?_; rintro e w9 ⟨rfl, hw9⟩; obtain rfl := hw9.symm) | (go_at_call 57; refine (KI.out _ (by first | exact HB.out | exact Below.refl _ _)).mono ?_; rintro e w9 ⟨rfl, hw9⟩; obtain rfl := hw9.symm))
          go_ret
          exact ⟨by rw [E.out]; rfl, by first | exact HB.out | exact Below.refl _ _⟩
        | false =>
          cases hv : voidB (ndK l m).tg with
          | true =>
            rw [if_pos ⟨u0, by unfold holdB; rw [hh, hv]; rfl⟩] at E0
            have E := Hid.mk' E0
            have KV := Hid.mk' (KV0.out (ndK l m).tg)
            rw [hv] at KV
            clear E0 SU KD
            go_enter Tryz.func84, Tryz.ntmps84
            go_wp2_with (first | go_big_skip | (go_at_call 110; refine KK.out.mono ?_; rintro e w9 ⟨rfl, hw9⟩; obtain rfl := hw9.symm) | (go_at_call 57; refine (KI.out _ (by first | exact HB.out | exact Below.refl _ _)).mono ?_; rintro e w9 ⟨rfl, hw9⟩; obtain rfl := hw9.symm) | (go_at_call 85; refine (KV.out _).mono ?_; rintro e w9 ⟨rfl, hw9⟩; obtain rfl := hw9.symm))
            go_ret
            exact ⟨by rw [E.out]; rfl, by first | exact HB.out | exact Below.refl _ _⟩
          | false =>
            rw [if_neg (by unfold holdB; rw [hh, hv]; simp)] at E0
            have KV := Hid.mk' (KV0.out (ndK l m).tg)
            rw [hv] at KV
            obtain ⟨j, hj⟩ : ∃ j, k - 1 = j := ⟨_, rfl⟩
            have SV := SU.out
            rw [hj, decide_eq_true (show 0 < k by omega), HTG.out] at SV
            obtain ⟨c6, c7, _⟩ := HC.out j (by omega)
            have ej : y = (j : Int) := by omega
            subst ej
            have cj : (j : Int) < (l.length : Int) := by omega
            have HJ := Hid.mk' hj
            clear hj SU
            cases hpt : ((ndK l j).tg.toList == []) with
            | false =>
              rw [if_neg (by rw [SV, hpt]; simp)] at E0
              clear SV
              by_cases q8 : (q : Int) ≥ 8
              · rw [if_pos (by omega)] at E0
                have E := Hid.mk' E0
                clear E0
                go_enter Tryz.func84, Tryz.ntmps84
                go_wp2_with (first | go_big_skip | (go_at_call 110; refine KK.out.mono ?_; rintro e w9 ⟨rfl, hw9⟩; obtain rfl := hw9.symm) | (go_at_call 57; refine (KI.out _ (by first | exact HB.out | exact Below.refl _ _)).mono ?_; rintro e w9 ⟨rfl, hw9⟩; obtain rfl := hw9.symm) | (go_at_call 85; refine (KV.out _).mono ?_; rintro e w9 ⟨rfl, hw9⟩; obtain rfl := hw9.symm))
                go_quiet (fail)
                go_wp2_with (first | go_big_skip | (go_at_call 111; refine (KD.out _ (by first | exact below_drewN HB.out _ | exact below_drewN (Below.refl _ _) _)).mono ?_; rintro e w9 ⟨rfl, hw9⟩; obtain rfl := hw9.symm))
                go_ret
                exact ⟨by rw [E.out]; rfl, by first | exact below_drewN HB.out _ | exact below_drewN (Below.refl _ _) _⟩
              · rw [if_neg (by omega)] at E0
                have E := Hid.mk' E0
                clear E0
                go_enter Tryz.func84, Tryz.ntmps84
                go_wp2_with (first | go_big_skip | (go_at_call 110; refine KK.out.mono ?_; rintro e w9 ⟨rfl, hw9⟩; obtain rfl := hw9.symm) | (go_at_call 57; refine (KI.out _ (by first | exact HB.out | exact Below.refl _ _)).mono ?_; rintro e w9 ⟨rfl, hw9⟩; obtain rfl := hw9.symm) | (go_at_call 85; refine (KV.out _).mono ?_; rintro e w9 ⟨rfl, hw9⟩; obtain rfl := hw9.symm))
                go_quiet (fail)
                go_wp2_with (first | go_big_skip | (go_at_call 111; refine (KD.out _ (by first | exact below_drewN HB.out _ | exact below_drewN (Below.refl _ _) _)).mono ?_; rintro e w9 ⟨rfl, hw9⟩; obtain rfl := hw9.symm))
                go_ret
                exact ⟨by rw [E.out]; rfl, by first | exact below_drewN HB.out _ | exact below_drewN (Below.refl _ _) _⟩
            | true =>
              by_cases hup : (ndK l j).up = (m : Int)
              · rw [if_pos (by rw [SV, hpt, hup]; simp)] at E0
                have E := Hid.mk' E0
                rw [hup] at c6
                clear E0 SV hup KD
                go_enter Tryz.func84, Tryz.ntmps84
                go_wp2_with (first | go_big_skip | (go_at_call 110; refine KK.out.mono ?_; rintro e w9 ⟨rfl, hw9⟩; obtain rfl := hw9.symm) | (go_at_call 57; refine (KI.out _ (by first | exact HB.out | exact Below.refl _ _)).mono ?_; rintro e w9 ⟨rfl, hw9⟩; obtain rfl := hw9.symm) | (go_at_call 85; refine (KV.out _).mono ?_; rintro e w9 ⟨rfl, hw9⟩; obtain rfl := hw9.symm))
                go_quiet (fail)
                go_wp2_with (first | go_big_skip | (go_at_call 111; refine (KD.out _ (by first | exact below_drewN HB.out _ | exact below_drewN (Below.refl _ _) _)).mono ?_; rintro e w9 ⟨rfl, hw9⟩; obtain rfl := hw9.symm))
                go_ret
                exact ⟨by rw [E.out]; rfl, by first | exact below_drewN HB.out _ | exact below_drewN (Below.refl _ _) _⟩
              · skip
                rw [if_neg (by rw [SV, hpt, decide_eq_false hup]; simp)] at E0
                clear SV
                by_cases q8 : (q : Int) ≥ 8
                · rw [if_pos (by omega)] at E0
                  have E := Hid.mk' E0
                  clear E0
                  go_enter Tryz.func84, Tryz.ntmps84
                  go_wp2_with (first | go_big_skip | (go_at_call 110; refine KK.out.mono ?_; rintro e w9 ⟨rfl, hw9⟩; obtain rfl := hw9.symm) | (go_at_call 57; refine (KI.out _ (by first | exact HB.out | exact Below.refl _ _)).mono ?_; rintro e w9 ⟨rfl, hw9⟩; obtain rfl := hw9.symm) | (go_at_call 85; refine (KV.out _).mono ?_; rintro e w9 ⟨rfl, hw9⟩; obtain rfl := hw9.symm))
                  go_quiet (fail)
                  go_wp2_with (first | go_big_skip | (go_at_call 111; refine (KD.out _ (by first | exact below_drewN HB.out _ | exact below_drewN (Below.refl _ _) _)).mono ?_; rintro e w9 ⟨rfl, hw9⟩; obtain rfl := hw9.symm))
                  go_ret
                  exact ⟨by rw [E.out]; rfl, by first | exact below_drewN HB.out _ | exact below_drewN (Below.refl _ _) _⟩
                · rw [if_neg (by omega)] at E0
                  have E := Hid.mk' E0
                  clear E0
                  go_enter Tryz.func84, Tryz.ntmps84
                  go_wp2_with (first | go_big_skip | (go_at_call 110; refine KK.out.mono ?_; rintro e w9 ⟨rfl, hw9⟩; obtain rfl := hw9.symm) | (go_at_call 57; refine (KI.out _ (by first | exact HB.out | exact Below.refl _ _)).mono ?_; rintro e w9 ⟨rfl, hw9⟩; obtain rfl := hw9.symm) | (go_at_call 85; refine (KV.out _).mono ?_; rintro e w9 ⟨rfl, hw9⟩; obtain rfl := hw9.symm))
                  go_quiet (fail)
                  go_wp2_with (first | go_big_skip | (go_at_call 111; refine (KD.out _ (by first | exact below_drewN HB.out _ | exact below_drewN (Below.refl _ _) _)).mono ?_; rintro e w9 ⟨rfl, hw9⟩; obtain rfl := hw9.symm))
                  go_ret
                  exact ⟨by rw [E.out]; rfl, by first | exact below_drewN HB.out _ | exact below_drewN (Below.refl _ _) _⟩
      · rw [if_neg (fun h => u0 h.1)] at E0
        obtain ⟨j, hj⟩ : ∃ j, k - 1 = j := ⟨_, rfl⟩
        have SV := SU.out
        rw [hj, decide_eq_true (show 0 < k by omega), HTG.out] at SV
        obtain ⟨c6, c7, _⟩ := HC.out j (by omega)
        have ej : y = (j : Int) := by omega
        subst ej
        have cj : (j : Int) < (l.length : Int) := by omega
        have HJ := Hid.mk' hj
        clear hj SU
        cases hpt : ((ndK l j).tg.toList == []) with
        | false =>
          rw [if_neg (by rw [SV, hpt]; simp)] at E0
          clear SV
          by_cases q8 : (q : Int) ≥ 8
          · rw [if_pos (by omega)] at E0
            have E := Hid.mk' E0
            clear E0
            go_enter Tryz.func84, Tryz.ntmps84
            go_wp2_with (first | go_big_skip | (go_at_call 110; refine KK.out.mono ?_; rintro e w9 ⟨rfl, hw9⟩; obtain rfl := hw9.symm) | (go_at_call 57; refine (KI.out _ (by first | exact HB.out | exact Below.refl _ _)).mono ?_; rintro e w9 ⟨rfl, hw9⟩; obtain rfl := hw9.symm))
            go_quiet (fail)
            go_wp2_with (first | go_big_skip | (go_at_call 111; refine (KD.out _ (by first | exact below_drewN HB.out _ | exact below_drewN (Below.refl _ _) _)).mono ?_; rintro e w9 ⟨rfl, hw9⟩; obtain rfl := hw9.symm))
            go_ret
            exact ⟨by rw [E.out]; rfl, by first | exact below_drewN HB.out _ | exact below_drewN (Below.refl _ _) _⟩
          · rw [if_neg (by omega)] at E0
            have E := Hid.mk' E0
            clear E0
            go_enter Tryz.func84, Tryz.ntmps84
            go_wp2_with (first | go_big_skip | (go_at_call 110; refine KK.out.mono ?_; rintro e w9 ⟨rfl, hw9⟩; obtain rfl := hw9.symm) | (go_at_call 57; refine (KI.out _ (by first | exact HB.out | exact Below.refl _ _)).mono ?_; rintro e w9 ⟨rfl, hw9⟩; obtain rfl := hw9.symm))
            go_quiet (fail)
            go_wp2_with (first | go_big_skip | (go_at_call 111; refine (KD.out _ (by first | exact below_drewN HB.out _ | exact below_drewN (Below.refl _ _) _)).mono ?_; rintro e w9 ⟨rfl, hw9⟩; obtain rfl := hw9.symm))
            go_ret
            exact ⟨by rw [E.out]; rfl, by first | exact below_drewN HB.out _ | exact below_drewN (Below.refl _ _) _⟩
        | true =>
          by_cases hup : (ndK l j).up = (ndK l k).up
          · rw [if_pos (by rw [SV, hpt, hup]; simp)] at E0
            have E := Hid.mk' E0
            rw [hup] at c6
            clear E0 SV hup KD
            go_enter Tryz.func84, Tryz.ntmps84
            go_wp2_with (first | go_big_skip | (go_at_call 110; refine KK.out.mono ?_; rintro e w9 ⟨rfl, hw9⟩; obtain rfl := hw9.symm) | (go_at_call 57; refine (KI.out _ (by first | exact HB.out | exact Below.refl _ _)).mono ?_; rintro e w9 ⟨rfl, hw9⟩; obtain rfl := hw9.symm))
            go_quiet (fail)
            go_wp2_with (first | go_big_skip | (go_at_call 111; refine (KD.out _ (by first | exact below_drewN HB.out _ | exact below_drewN (Below.refl _ _) _)).mono ?_; rintro e w9 ⟨rfl, hw9⟩; obtain rfl := hw9.symm))
            go_ret
            exact ⟨by rw [E.out]; rfl, by first | exact below_drewN HB.out _ | exact below_drewN (Below.refl _ _) _⟩
          · skip
            rw [if_neg (by rw [SV, hpt, decide_eq_false hup]; simp)] at E0
            clear SV
            by_cases q8 : (q : Int) ≥ 8
            · rw [if_pos (by omega)] at E0
              have E := Hid.mk' E0
              clear E0
              go_enter Tryz.func84, Tryz.ntmps84
              go_wp2_with (first | go_big_skip | (go_at_call 110; refine KK.out.mono ?_; rintro e w9 ⟨rfl, hw9⟩; obtain rfl := hw9.symm) | (go_at_call 57; refine (KI.out _ (by first | exact HB.out | exact Below.refl _ _)).mono ?_; rintro e w9 ⟨rfl, hw9⟩; obtain rfl := hw9.symm))
              go_quiet (fail)
              go_wp2_with (first | go_big_skip | (go_at_call 111; refine (KD.out _ (by first | exact below_drewN HB.out _ | exact below_drewN (Below.refl _ _) _)).mono ?_; rintro e w9 ⟨rfl, hw9⟩; obtain rfl := hw9.symm))
              go_ret
              exact ⟨by rw [E.out]; rfl, by first | exact below_drewN HB.out _ | exact below_drewN (Below.refl _ _) _⟩
            · rw [if_neg (by omega)] at E0
              have E := Hid.mk' E0
              clear E0
              go_enter Tryz.func84, Tryz.ntmps84
              go_wp2_with (first | go_big_skip | (go_at_call 110; refine KK.out.mono ?_; rintro e w9 ⟨rfl, hw9⟩; obtain rfl := hw9.symm) | (go_at_call 57; refine (KI.out _ (by first | exact HB.out | exact Below.refl _ _)).mono ?_; rintro e w9 ⟨rfl, hw9⟩; obtain rfl := hw9.symm))
              go_quiet (fail)
              go_wp2_with (first | go_big_skip | (go_at_call 111; refine (KD.out _ (by first | exact below_drewN HB.out _ | exact below_drewN (Below.refl _ _) _)).mono ?_; rintro e w9 ⟨rfl, hw9⟩; obtain rfl := hw9.symm))
              go_ret
              exact ⟨by rw [E.out]; rfl, by first | exact below_drewN HB.out _ | exact below_drewN (Below.refl _ _) _⟩

theorem wayU_zero (u : Nat → Int) : wayU u 0 = [-1] := rfl

theorem place_zero {l : List ND} (h : (ndK l 0).up = -1) : placeF l 0 = 0 := by
  have d0 : depU (upF l) 0 = 0 := by simp [depU, wayU, ixF, upF, h]
  unfold placeF
  rw [d0, wayU_zero, if_pos (by simp), if_neg (by omega), if_neg (by simp [sideB]), if_neg (by omega)]

theorem place_zero' {l : List ND} (h : ¬ (ndK l 0).up = -1) : placeF l 0 = 3 := by
  have d0 : depU (upF l) 0 = 1 := by
    have h2 : ¬ (-1 : Int) = (ndK l 0).up := fun e => h e.symm
    simp [depU, wayU, ixF, upF, h2]
  unfold placeF
  rw [d0, wayU_zero, if_neg (by simp)]

set_option maxHeartbeats 8000000 in
theorem l6One_zero (a : Option Addr) (c : Nat) (l : List ND) (w : World) (ha : NsAt w a l) (hk : 0 < l.length) (hl : (l.length : Int) + nssz l ≤ 1048576) :
    Calls Tryz.prog 84 #[.slice a l.length c, .int .i64 0] w fun e w' => e = .returned (.int .i64 (oneF l 0)) ∧ Below w.heap.size w w' := by
  have hlen : (l.length : Int) ≤ 1048576 := by omega
  have KI0 : Hid ((ndK l 0).up = -1 → ∀ w', Below w.heap.size w w' → Calls Tryz.prog 57 #[.slice a l.length c, .int .i64 (-1), .int .i64 (-1)] w' fun e w'' => e = .returned (.bool true) ∧ w'' = w') := fun hu w' hb => by
    have := l6In_any a c l 0 (-1) w' (ha.below hb) (by omega) (fun j hj => absurd hj (Nat.not_lt_zero _)) hlen
    exact this
  have KD0 : Hid ((ndK l 0).up = -1 → ∀ w', Below w.heap.size w w' → Calls Tryz.prog 111 #[.slice a l.length c, .int .i64 0] w' fun e w'' => e = .returned (.int .i64 0) ∧ w'' = w') := fun hu w' hb => by
    have d0 : depU (upF l) 0 = 0 := by simp [depU, wayU, ixF, upF, hu]
    have := l6Depth_any a c l 0 w' (ha.below hb) hk (fun j hj => absurd hj (Nat.not_lt_zero _)) (by rw [d0]; simp [wayU]) hlen
    rw [d0] at this
    exact this
  have hsz := nssz_at hk
  rcases ha with ha | ⟨b, o, rfl, hbs, hc⟩
  · rw [ha] at hk; exact absurd hk (Nat.not_lt_zero _)
  obtain ⟨c0, c1, ⟨p, d, c2, hd, hA⟩, ⟨p', d', c3, _⟩⟩ := hc 0 hk
  rw [Nat.zero_mul, Nat.add_zero] at c0 c1 c2 c3
  have ck : (0 : Int) < (l.length : Int) := by omega
  have KK := l6Kind_any (ndK l 0) b o p p' d d' w c1 c2 c3
  have KN := l4Name_any (ndK l 0).tg w (by unfold nsz at hsz; omega)
  have KA := l4Attrs_any p d (ndK l 0).at_ w hA hd (by unfold nsz at hsz; omega)
  have MU := Hid.mk' (show markF (ndK l 0) = if kindB (ndK l 0) = true then (if ((ndK l 0).tg.toList == []) = true then 0 else if nmB (ndK l 0).tg = true then afault (ndK l 0).at_ else 5) else 1 from rfl)
  clear hc hA hsz
  cases hkd : kindB (ndK l 0) with
  | false =>
    rw [hkd] at KK
    have KK := Hid.mk' KK
    have E : Hid (oneF l 0 = 1) := Hid.mk' (oneF_mark (by rw [MU.out, hkd]; rfl) (by decide))
    clear KN KA
    go_enter Tryz.func84, Tryz.ntmps84
    go_wp2_with (first | go_big_skip | (go_at_call 110; refine KK.out.mono ?_; rintro e w9 ⟨rfl, hw9⟩; obtain rfl := hw9.symm))
    go_ret
    exact ⟨by rw [E.out]; rfl, by first | exact HB.out | exact Below.refl _ _⟩
  | true =>
    rw [hkd] at KK
    have KK := Hid.mk' KK
    cases htg : ((ndK l 0).tg.toList == []) with
    | false =>
      cases hnm : nmB (ndK l 0).tg with
      | false =>
        rw [hnm] at KN
        have KN := Hid.mk' KN
        have E : Hid (oneF l 0 = 5) := Hid.mk' (oneF_mark (by rw [MU.out, hkd, htg, hnm]; rfl) (by decide))
        clear KA
        go_enter Tryz.func84, Tryz.ntmps84
        go_wp2_with (first | go_big_skip | (go_at_call 110; refine KK.out.mono ?_; rintro e w9 ⟨rfl, hw9⟩; obtain rfl := hw9.symm) | (go_at_call 61; refine KN.out.mono ?_; rintro e w9 ⟨rfl, hw9⟩; obtain rfl := hw9.symm))
        go_ret
        exact ⟨by rw [E.out]; rfl, by first | exact HB.out | exact Below.refl _ _⟩
      | true =>
        rw [hnm] at KN
        have KN := Hid.mk' KN
        obtain ⟨f, hf⟩ : ∃ f, afault (ndK l 0).at_ = f := ⟨_, rfl⟩
        rw [hf] at KA
        have KA := Hid.mk' KA
        by_cases hf0 : f = 0
        rotate_left
        · have E : Hid (oneF l 0 = f) := Hid.mk' (oneF_mark (by rw [MU.out, hkd, htg, hnm, ← hf]; rfl) hf0)
          go_enter Tryz.func84, Tryz.ntmps84
          go_wp2_with (first | go_big_skip | (go_at_call 110; refine KK.out.mono ?_; rintro e w9 ⟨rfl, hw9⟩; obtain rfl := hw9.symm) | (go_at_call 61; refine KN.out.mono ?_; rintro e w9 ⟨rfl, hw9⟩; obtain rfl := hw9.symm) | (go_at_call 62; refine KA.out.mono ?_; rintro e w1 ⟨rfl, hbb⟩; have HB := Hid.mk' hbb; clear hbb))
          go_ret
          exact ⟨by rw [E.out]; rfl, by first | exact HB.out | exact Below.refl _ _⟩
        rw [hf0] at KA
        have MZ : markF (ndK l 0) = 0 := by rw [MU.out, hkd, htg, hnm, ← hf0, ← hf]; rfl
        clear hf0 hf MU
        have E0 := oneF_place MZ
        by_cases hu : (ndK l 0).up = -1
        rotate_left
        · rw [place_zero' hu] at E0
          have E := Hid.mk' E0
          clear E0 KI0 KD0 MZ
          by_cases u1 : (ndK l 0).up < -1
          · skip
            go_enter Tryz.func84, Tryz.ntmps84
            go_wp2_with (first | go_big_skip | (go_at_call 110; refine KK.out.mono ?_; rintro e w9 ⟨rfl, hw9⟩; obtain rfl := hw9.symm) | (go_at_call 61; refine KN.out.mono ?_; rintro e w9 ⟨rfl, hw9⟩; obtain rfl := hw9.symm) | (go_at_call 62; refine KA.out.mono ?_; rintro e w1 ⟨rfl, hbb⟩; have HB := Hid.mk' hbb; have d0 := (hbb.cell hbs).trans c0; have d1 := (hbb.cell hbs).trans c1; clear hbb))
            go_ret
            exact ⟨by rw [E.out]; rfl, by first | exact HB.out | exact Below.refl _ _⟩
          have u2 : (ndK l 0).up ≥ 0 := by omega
          go_enter Tryz.func84, Tryz.ntmps84
          go_wp2_with (first | go_big_skip | (go_at_call 110; refine KK.out.mono ?_; rintro e w9 ⟨rfl, hw9⟩; obtain rfl := hw9.symm) | (go_at_call 61; refine KN.out.mono ?_; rintro e w9 ⟨rfl, hw9⟩; obtain rfl := hw9.symm) | (go_at_call 62; refine KA.out.mono ?_; rintro e w1 ⟨rfl, hbb⟩; have HB := Hid.mk' hbb; have d0 := (hbb.cell hbs).trans c0; have d1 := (hbb.cell hbs).trans c1; clear hbb))
          go_ret
          exact ⟨by rw [E.out]; rfl, by first | exact HB.out | exact Below.refl _ _⟩
        rw [place_zero hu] at E0
        have E := Hid.mk' E0
        have KI := Hid.mk' (KI0.out hu)
        have KD := Hid.mk' (KD0.out hu)
        rw [hu] at c0
        clear E0 KI0 KD0 MZ hu
        go_enter Tryz.func84, Tryz.ntmps84
        go_wp2_with (first | go_big_skip | (go_at_call 110; refine KK.out.mono ?_; rintro e w9 ⟨rfl, hw9⟩; obtain rfl := hw9.symm) | (go_at_call 61; refine KN.out.mono ?_; rintro e w9 ⟨rfl, hw9⟩; obtain rfl := hw9.symm) | (go_at_call 62; refine KA.out.mono ?_; rintro e w1 ⟨rfl, hbb⟩; have HB := Hid.mk' hbb; have d0 := (hbb.cell hbs).trans c0; have d1 := (hbb.cell hbs).trans c1; clear hbb) | (go_at_call 57; refine (KI.out _ (by first | exact HB.out | exact Below.refl _ _)).mono ?_; rintro e w9 ⟨rfl, hw9⟩; obtain rfl := hw9.symm))
        go_quiet (fail)
        go_wp2_with (first | go_big_skip | (go_at_call 111; refine (KD.out _ (by first | exact below_drewN HB.out _ | exact below_drewN (Below.refl _ _) _)).mono ?_; rintro e w9 ⟨rfl, hw9⟩; obtain rfl := hw9.symm))
        go_ret
        exact ⟨by rw [E.out]; rfl, by first | exact below_drewN HB.out _ | exact below_drewN (Below.refl _ _) _⟩
    | true =>
      have MZ : markF (ndK l 0) = 0 := by rw [MU.out, hkd, htg]; rfl
      clear MU KN KA
      have E0 := oneF_place MZ
      by_cases hu : (ndK l 0).up = -1
      rotate_left
      · rw [place_zero' hu] at E0
        have E := Hid.mk' E0
        clear E0 KI0 KD0 MZ
        by_cases u1 : (ndK l 0).up < -1
        · skip
          go_enter Tryz.func84, Tryz.ntmps84
          go_wp2_with (first | go_big_skip | (go_at_call 110; refine KK.out.mono ?_; rintro e w9 ⟨rfl, hw9⟩; obtain rfl := hw9.symm))
          go_ret
          exact ⟨by rw [E.out]; rfl, by first | exact HB.out | exact Below.refl _ _⟩
        have u2 : (ndK l 0).up ≥ 0 := by omega
        go_enter Tryz.func84, Tryz.ntmps84
        go_wp2_with (first | go_big_skip | (go_at_call 110; refine KK.out.mono ?_; rintro e w9 ⟨rfl, hw9⟩; obtain rfl := hw9.symm))
        go_ret
        exact ⟨by rw [E.out]; rfl, by first | exact HB.out | exact Below.refl _ _⟩
      rw [place_zero hu] at E0
      have E := Hid.mk' E0
      have KI := Hid.mk' (KI0.out hu)
      have KD := Hid.mk' (KD0.out hu)
      rw [hu] at c0
      clear E0 KI0 KD0 MZ hu
      go_enter Tryz.func84, Tryz.ntmps84
      go_wp2_with (first | go_big_skip | (go_at_call 110; refine KK.out.mono ?_; rintro e w9 ⟨rfl, hw9⟩; obtain rfl := hw9.symm) | (go_at_call 57; refine (KI.out _ (by first | exact HB.out | exact Below.refl _ _)).mono ?_; rintro e w9 ⟨rfl, hw9⟩; obtain rfl := hw9.symm))
      go_quiet (fail)
      go_wp2_with (first | go_big_skip | (go_at_call 111; refine (KD.out _ (by first | exact below_drewN HB.out _ | exact below_drewN (Below.refl _ _) _)).mono ?_; rintro e w9 ⟨rfl, hw9⟩; obtain rfl := hw9.symm))
      go_ret
      exact ⟨by rw [E.out]; rfl, by first | exact below_drewN HB.out _ | exact below_drewN (Below.refl _ _) _⟩

theorem l6One_any (a : Option Addr) (c : Nat) (l : List ND) (k : Nat) (w : World) (ha : NsAt w a l) (hk : k < l.length) (hW : Ways l k) (hl : (l.length : Int) + nssz l ≤ 1048576) :
    Calls Tryz.prog 84 #[.slice a l.length c, .int .i64 (k : Int)] w fun e w' => e = .returned (.int .i64 (oneF l k)) ∧ Below w.heap.size w w' := by
  rcases Nat.eq_zero_or_pos k with h | h
  · subst h; exact l6One_zero a c l w ha hk hl
  · exact l6One_pos a c l k w ha hk h hW hl

end Go.Proofs.YtpcpnfpnkkjkcaaGreat
