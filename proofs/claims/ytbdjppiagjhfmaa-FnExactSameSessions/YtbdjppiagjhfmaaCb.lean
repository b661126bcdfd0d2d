/- Policies copied and compared; words that rise: both sides, and the law on PolicyFault. -/
import Derived.Test.YtbdjppiagjhfmaaCa
import Derived.Test.YtbdjppiagjhfmaaNa
namespace Go.Proofs.Ytbdjppiagjhfmaa
open Go.RowKit
set_option linter.unusedVariables false
set_option linter.unusedSimpArgs false

/-- The boxes of toPolicy. -/
structure TP (w : World) (x0 x1 x2 v0 v1 v2 : Value) (W : World) : Prop where
  bl : Below w.heap.size w W
  rp : W.rowIs w.heap.size 25 3 (r3 x0 x1 x2)
  rr : W.rowIs (w.heap.size + 1) 30 3 (r3 (.slice none 0 0) (.slice none 0 0) (.slice none 0 0))
  ro : W.rowIs (w.heap.size + 1 + 1) 30 3 (r3 v0 v1 v2)
  sz : w.heap.size + 1 + 1 < W.heap.size

theorem TP.mk0 (w : World) (x0 x1 x2 : Value) : TP w x0 x1 x2 (.slice none 0 0) (.slice none 0 0) (.slice none 0 0) (((w.alloc (.cells #[x0, x1, x2] 25)).alloc (.cells #[.slice none 0 0, .slice none 0 0, .slice none 0 0] 30)).alloc (.cells #[.slice none 0 0, .slice none 0 0, .slice none 0 0] 30)) := by
  refine ⟨(((Below.refl _ _).alloc (Nat.le_refl _) _).alloc (by simp) _).alloc (by simp; omega) _, ((row3 w _ x0 x1 x2).alloc _).alloc _, ?_, ?_, by simp⟩
  · have := (row3 (w.alloc (.cells #[x0, x1, x2] 25)) 30 (.slice none 0 0) (.slice none 0 0) (.slice none 0 0)).alloc (.cells #[.slice none 0 0, .slice none 0 0, .slice none 0 0] 30)
    rw [show (w.alloc (.cells #[x0, x1, x2] 25)).heap.size = w.heap.size + 1 by simp] at this
    exact this
  · have := row3 ((w.alloc (.cells #[x0, x1, x2] 25)).alloc (.cells #[.slice none 0 0, .slice none 0 0, .slice none 0 0] 30)) 30 (.slice none 0 0) (.slice none 0 0) (.slice none 0 0)
    rw [show ((w.alloc (.cells #[x0, x1, x2] 25)).alloc (.cells #[.slice none 0 0, .slice none 0 0, .slice none 0 0] 30)).heap.size = w.heap.size + 1 + 1 by simp] at this
    exact this

theorem TP.call {w W W' : World} {x0 x1 x2 v0 v1 v2 : Value} (h : TP w x0 x1 x2 v0 v1 v2 W) (hb : Below W.heap.size W W') : TP w x0 x1 x2 v0 v1 v2 W' :=
  ⟨h.bl.trans (hb.mono h.bl.size), rowB h.rp hb, rowB h.rr hb, rowB h.ro hb, Nat.lt_of_lt_of_le h.sz hb.size⟩

theorem TP.keep {w W : World} (i : Nat) (v : Value) : KeptIn (w.heap.size + 1 + 1) (w.heap.size + 1 + 1 + 1) W (W.setCell ⟨w.heap.size + 1 + 1, i, none⟩ v) :=
  (KeptIn.refl _ _ W).setCell (p := ⟨w.heap.size + 1 + 1, i, none⟩) (by simp) (by simp) v

theorem TP.set0 {w W : World} {x0 x1 x2 v0 v1 v2 v : Value} (h : TP w x0 x1 x2 v0 v1 v2 W) : TP w x0 x1 x2 v v1 v2 (W.setCell ⟨w.heap.size + 1 + 1, 0, none⟩ v) :=
  ⟨h.bl.trans ((TP.keep 0 v).below (by omega) (by have := h.sz; omega)), rowK h.rp (TP.keep 0 v) (.inl (by omega)), rowK h.rr (TP.keep 0 v) (.inl (by omega)), (h.ro.set 0 v).congr (fun j hj => by
    have : j = 0 ∨ j = 1 ∨ j = 2 := by omega
    rcases this with rfl | rfl | rfl <;> simp [r3]), by have := h.sz; simp [World.setCell]; omega⟩

theorem TP.set1 {w W : World} {x0 x1 x2 v0 v1 v2 v : Value} (h : TP w x0 x1 x2 v0 v1 v2 W) : TP w x0 x1 x2 v0 v v2 (W.setCell ⟨w.heap.size + 1 + 1, 1, none⟩ v) :=
  ⟨h.bl.trans ((TP.keep 1 v).below (by omega) (by have := h.sz; omega)), rowK h.rp (TP.keep 1 v) (.inl (by omega)), rowK h.rr (TP.keep 1 v) (.inl (by omega)), (h.ro.set 1 v).congr (fun j hj => by
    have : j = 0 ∨ j = 1 ∨ j = 2 := by omega
    rcases this with rfl | rfl | rfl <;> simp [r3]), by have := h.sz; simp [World.setCell]; omega⟩

theorem frz3 {w : World} {g : Nat} {T : TypeId} {f : Nat → Value} (h : w.rowIs g T 3 f) : w.frozen? ⟨g, 0, none⟩ = false ∧ w.frozen? ⟨g, 1, none⟩ = false ∧ w.frozen? ⟨g, 2, none⟩ = false := ⟨h.frozen 0, h.frozen 1, h.frozen 2⟩

set_option maxHeartbeats 3200000 in
theorem toPolicy_any (p : PO) (a b c : Option Addr) (n1 n2 n3 : Nat) (w : World) (ha : POAt w a b c p) (hl : (psz p : Int) ≤ 1048576) :
    Calls Try.prog 31 #[.agg #[.slice a p.tg.length n1, .slice b p.at_.length n2, .slice c p.sc.length n3]] w fun e w' => ∃ g1 g2 g3, e = .returned (.agg #[.slice (some ⟨g1, 0, none⟩) p.tg.length p.tg.length, .slice (some ⟨g2, 0, none⟩) p.at_.length p.at_.length, .slice (some ⟨g3, 0, none⟩) p.sc.length p.sc.length]) ∧ PX w.heap.size g1 g2 g3 p w' ∧ Below w.heap.size w w' := by
  unfold psz at hl
  have T0 := Hid.mk' (TP.mk0 w (.slice a p.tg.length n1) (.slice b p.at_.length n2) (.slice c p.sc.length n3))
  have HA := Hid.mk' ha
  clear ha
  generalize hW : ((w.alloc (.cells #[.slice a p.tg.length n1, .slice b p.at_.length n2, .slice c p.sc.length n3] 25)).alloc (.cells #[.slice none 0 0, .slice none 0 0, .slice none 0 0] 30)).alloc (.cells #[.slice none 0 0, .slice none 0 0, .slice none 0 0] 30) = W at *
  obtain ⟨x0, x1, x2, x3⟩ := cellsP T0.out.rp
  go_enter Try.func31, Try.ntmps31
  go_wp2_with fail
  clear hW x0 x1 x2 x3
  refine (toStringS_any a n1 p.tg W (HA.out.below T0.out.bl).1 (by omega)).mono ?_
  rintro e w1 ⟨g1, rfl, hg1, r1, hb1⟩
  have T1 := Hid.mk' (T0.out.call hb1)
  have R1 := Hid.mk' (rowK r1 (TP.keep (w := w) 0 (.slice (some ⟨g1, 0, none⟩) p.tg.length p.tg.length)) (.inr (by have := T0.out.sz; omega)))
  have L1 : Hid (w.heap.size + 1 + 1 < g1) := Hid.mk' (by have := T0.out.sz; omega)
  have HG1 : Hid (g1 < w1.heap.size) := Hid.mk' r1.lt
  clear hb1 r1 hg1
  obtain ⟨o0, o1, o2, o3⟩ := cellsP T1.out.ro
  obtain ⟨f0, f1, f2⟩ := frz3 T1.out.ro
  have T2 := Hid.mk' (T1.out.set0 (v := .slice (some ⟨g1, 0, none⟩) p.tg.length p.tg.length))
  have Z2 : Hid ((w1.setCell ⟨w.heap.size + 1 + 1, 0, none⟩ (.slice (some ⟨g1, 0, none⟩) p.tg.length p.tg.length)).heap.size = w1.heap.size) := Hid.mk' (by simp [World.setCell])
  generalize hV : w1.setCell ⟨w.heap.size + 1 + 1, 0, none⟩ (.slice (some ⟨g1, 0, none⟩) p.tg.length p.tg.length) = V at *
  obtain ⟨x0, x1, x2, x3⟩ := cellsP T2.out.rp
  go_wp2_with fail
  clear hV x0 x1 x2 x3 o0 o1 o2 o3 f0 f1 f2 T1
  refine (toStringS_any b n2 p.at_ V (HA.out.below T2.out.bl).2.1 (by omega)).mono ?_
  rintro e w2 ⟨g2, rfl, hg2, r2, hb2⟩
  have T3 := Hid.mk' (T2.out.call hb2)
  have R1 := Hid.mk' (rowK (rowB R1.out hb2) (TP.keep (w := w) 1 (.slice (some ⟨g2, 0, none⟩) p.at_.length p.at_.length)) (.inr (by have := L1.out; omega)))
  have R2 := Hid.mk' (rowK r2 (TP.keep (w := w) 1 (.slice (some ⟨g2, 0, none⟩) p.at_.length p.at_.length)) (.inr (by have := T2.out.sz; omega)))
  have L2 : Hid (g1 < g2) := Hid.mk' (by have := HG1.out; have := Z2.out; omega)
  have HG2 : Hid (g2 < w2.heap.size) := Hid.mk' r2.lt
  clear hb2 r2 hg2 Z2
  obtain ⟨o0, o1, o2, o3⟩ := cellsP T3.out.ro
  obtain ⟨f0, f1, f2⟩ := frz3 T3.out.ro
  have T4 := Hid.mk' (T3.out.set1 (v := .slice (some ⟨g2, 0, none⟩) p.at_.length p.at_.length))
  have Z2 : Hid ((w2.setCell ⟨w.heap.size + 1 + 1, 1, none⟩ (.slice (some ⟨g2, 0, none⟩) p.at_.length p.at_.length)).heap.size = w2.heap.size) := Hid.mk' (by simp [World.setCell])
  generalize hV : w2.setCell ⟨w.heap.size + 1 + 1, 1, none⟩ (.slice (some ⟨g2, 0, none⟩) p.at_.length p.at_.length) = V2 at *
  obtain ⟨x0, x1, x2, x3⟩ := cellsP T4.out.rp
  go_wp2_with fail
  clear hV x0 x1 x2 x3 o0 o1 o2 o3 f0 f1 f2 T3
  refine (toStringS_any c n3 p.sc V2 (HA.out.below T4.out.bl).2.2 (by omega)).mono ?_
  rintro e w3 ⟨g3, rfl, hg3, r3, hb3⟩
  have T5 := Hid.mk' (T4.out.call hb3)
  have R1 := Hid.mk' (rowB R1.out hb3)
  have R2 := Hid.mk' (rowB R2.out hb3)
  have R3 := Hid.mk' r3
  have L3 : Hid (g2 < g3) := Hid.mk' (by have := HG2.out; have := Z2.out; omega)
  clear hb3 r3 hg3 Z2
  obtain ⟨o0, o1, o2, o3⟩ := cellsP T5.out.ro
  obtain ⟨f0, f1, f2⟩ := frz3 T5.out.ro
  obtain ⟨y0, y1, y2, y3⟩ := cellsP T5.out.rr
  obtain ⟨h0, h1, h2⟩ := frz3 T5.out.rr
  go_wp2
  refine bodyPost_ret (v := .agg #[.slice (some ⟨g1, 0, none⟩) p.tg.length p.tg.length, .slice (some ⟨g2, 0, none⟩) p.at_.length p.at_.length, .slice (some ⟨g3, 0, none⟩) p.sc.length p.sc.length]) (by simp [results, Try.results31, go_sem, *]) rfl ?_
  have e1 := L1.out
  have e2 := L2.out
  have e3 := L3.out
  have e4 := T5.out.sz
  have KK := ((((KeptIn.refl (w.heap.size + 1) (w.heap.size + 1 + 1 + 1) w3).setCell (p := ⟨w.heap.size + 1 + 1, 2, none⟩) (by simp) (by simp) (.slice (some ⟨g3, 0, none⟩) p.sc.length p.sc.length)).setCell (p := ⟨w.heap.size + 1, 0, none⟩) (by simp) (by simp) (.slice (some ⟨g1, 0, none⟩) p.tg.length p.tg.length)).setCell (p := ⟨w.heap.size + 1, 1, none⟩) (by simp) (by simp) (.slice (some ⟨g2, 0, none⟩) p.at_.length p.at_.length)).setCell (p := ⟨w.heap.size + 1, 2, none⟩) (by simp) (by simp) (.slice (some ⟨g3, 0, none⟩) p.sc.length p.sc.length)
  exact ⟨g1, g2, g3, rfl, ⟨by omega, e2, e3, rowK R1.out KK (.inr (by omega)), rowK R2.out KK (.inr (by omega)), rowK R3.out KK (.inr (by omega))⟩, T5.out.bl.trans (KK.below (by omega) (by omega))⟩

set_option maxHeartbeats 1600000 in
theorem eqPolicy_any (p : PO) (a b c a' b' c' : Option Addr) (n1 n2 n3 m1 m2 m3 : Nat) (w : World) (ha : POAt w a b c p) (hb : POAt w a' b' c' p) (hl : (psz p : Int) ≤ 1048576) :
    Calls Try.prog 34 #[.agg #[.slice a p.tg.length n1, .slice b p.at_.length n2, .slice c p.sc.length n3], .agg #[.slice a' p.tg.length m1, .slice b' p.at_.length m2, .slice c' p.sc.length m3]] w fun e w' => e = .returned (.bool true) ∧ Below w.heap.size w w' := by
  unfold psz at hl
  have B0 := ((Below.refl w.heap.size w).alloc (Nat.le_refl _) (.cells #[.slice a p.tg.length n1, .slice b p.at_.length n2, .slice c p.sc.length n3] 30)).alloc (by simp) (.cells #[.slice a' p.tg.length m1, .slice b' p.at_.length m2, .slice c' p.sc.length m3] 30)
  have R1 := (row3 w 30 (.slice a p.tg.length n1) (.slice b p.at_.length n2) (.slice c p.sc.length n3)).alloc (.cells #[.slice a' p.tg.length m1, .slice b' p.at_.length m2, .slice c' p.sc.length m3] 30)
  have R2 := row3 (w.alloc (.cells #[.slice a p.tg.length n1, .slice b p.at_.length n2, .slice c p.sc.length n3] 30)) 30 (.slice a' p.tg.length m1) (.slice b' p.at_.length m2) (.slice c' p.sc.length m3)
  have z1 : (w.alloc (.cells #[.slice a p.tg.length n1, .slice b p.at_.length n2, .slice c p.sc.length n3] 30)).heap.size = w.heap.size + 1 := by simp
  rw [z1] at R2
  have H1 := Hid.mk' R1
  have H2 := Hid.mk' R2
  have HX := Hid.mk' (ha.below B0)
  have HY := Hid.mk' (hb.below B0)
  have HB := Hid.mk' B0
  clear ha hb B0 R1 R2 z1
  generalize hW : (w.alloc (.cells #[.slice a p.tg.length n1, .slice b p.at_.length n2, .slice c p.sc.length n3] 30)).alloc (.cells #[.slice a' p.tg.length m1, .slice b' p.at_.length m2, .slice c' p.sc.length m3] 30) = W at *
  obtain ⟨x0, x1, x2, x3⟩ := cellsP H1.out
  obtain ⟨y0, y1, y2, y3⟩ := cellsP H2.out
  go_enter Try.func34, Try.ntmps34
  go_wp2_with fail
  clear hW x0 x1 x2 x3 y0 y1 y2 y3
  refine (eqStringS_any a a' n1 m1 p.tg W HX.out.1 HY.out.1 (by omega)).mono ?_
  rintro e w1 ⟨rfl, hb⟩
  have H1 := Hid.mk' (rowB H1.out hb)
  have H2 := Hid.mk' (rowB H2.out hb)
  have HX := Hid.mk' (HX.out.below hb)
  have HY := Hid.mk' (HY.out.below hb)
  have HB := Hid.mk' (HB.out.trans (hb.mono HB.out.size))
  clear hb
  obtain ⟨x0, x1, x2, x3⟩ := cellsP H1.out
  obtain ⟨y0, y1, y2, y3⟩ := cellsP H2.out
  go_wp2_with fail
  clear x0 x1 x2 x3 y0 y1 y2 y3
  refine (eqStringS_any b b' n2 m2 p.at_ w1 HX.out.2.1 HY.out.2.1 (by omega)).mono ?_
  rintro e w2 ⟨rfl, hb⟩
  have H1 := Hid.mk' (rowB H1.out hb)
  have H2 := Hid.mk' (rowB H2.out hb)
  have HX := Hid.mk' (HX.out.below hb)
  have HY := Hid.mk' (HY.out.below hb)
  have HB := Hid.mk' (HB.out.trans (hb.mono HB.out.size))
  clear hb
  obtain ⟨x0, x1, x2, x3⟩ := cellsP H1.out
  obtain ⟨y0, y1, y2, y3⟩ := cellsP H2.out
  go_wp2_with fail
  clear x0 x1 x2 x3 y0 y1 y2 y3
  refine (eqStringS_any c c' n3 m3 p.sc w2 HX.out.2.2 HY.out.2.2 (by omega)).mono ?_
  rintro e w3 ⟨rfl, hb⟩
  have HB := Hid.mk' (HB.out.trans (hb.mono HB.out.size))
  clear hb
  go_wp2
  go_ret
  exact ⟨rfl, HB.out⟩

/-- One text is behind no other one: it comes ahead, or is the same. -/
def leB (x y : ByteArray) : Bool := Op.bytesLess x.toList y.toList || (x.toList == y.toList)

/-- The code of words that come behind y. -/
def wfA : ByteArray → List ByteArray → Int
  | _, [] => 0
  | y, x :: r => if nmB x = true then (if leB x y = true then 1 else wfA x r) else 5

def wfault (l : List ByteArray) : Int := wfA ⟨#[]⟩ l

/-- What stands ahead of the k-th word. -/
def ahW (l : List ByteArray) : Nat → ByteArray
  | 0 => ⟨#[]⟩
  | k + 1 => sK l k

theorem wfA_step (l : List ByteArray) (y : ByteArray) (k : Nat) (hk : k < l.length) : wfA y (l.drop k) = if nmB (sK l k) = true then (if leB (sK l k) y = true then 1 else wfA (sK l k) (l.drop (k + 1))) else 5 := by
  have e : l.drop k = sK l k :: l.drop (k + 1) := by
    rw [List.drop_eq_getElem_cons hk]
    simp [sK, hk]
  rw [e]; rfl

theorem tlLoop (s : ByteArray) : ∀ (n i : Nat) (r : List UInt8), s.size - i = n → ByteArray.toList.loop s i r = r.reverse ++ s.data.toList.drop i := by
  intro n
  induction n with
  | zero =>
    intro i r h
    rw [ByteArray.toList.loop, if_neg (by omega)]
    have h2 : s.data.toList.length ≤ i := by
      have : s.data.toList.length = s.size := by simp
      omega
    rw [List.drop_eq_nil_of_le h2, List.append_nil]
  | succ n ih =>
    intro i r h
    have hi : i < s.size := by omega
    rw [ByteArray.toList.loop, if_pos hi, ih (i + 1) _ (by omega)]
    have h2 : i < s.data.toList.length := by
      have : s.data.toList.length = s.size := by simp
      omega
    rw [List.drop_eq_getElem_cons h2, List.reverse_cons, List.append_assoc]
    congr 1
    show [s.get! i] ++ _ = _
    have e : s.get! i = s.data.toList[i] := by
      show s.data[i]! = _
      rw [getElem!_pos s.data i (by simpa using h2)]
      simp
    rw [e]; rfl
theorem tlData (s : ByteArray) : s.toList = s.data.toList := by
  unfold ByteArray.toList
  rw [tlLoop s _ 0 [] rfl]
  simp

theorem leB_none {x : ByteArray} (h : nmB x = true) : leB x ⟨#[]⟩ = false := by
  have h1 := ((nmB_iff x).1 h).1
  unfold leB
  have e : (⟨#[]⟩ : ByteArray).toList = [] := by decide +kernel
  rw [e]
  have e2 : Op.bytesLess x.toList [] = false := by cases x.toList <;> rfl
  rw [e2, Bool.false_or]
  cases hx : x.toList with
  | nil =>
    rw [tlData] at hx
    have h2 : x.data.toList.length = x.size := by simp
    rw [hx] at h2
    simp at h2
    omega
  | cons a r => rfl

set_option maxHeartbeats 1600000 in
theorem wordsFault_any (a : Option Addr) (c : Nat) (l : List ByteArray) (w : World) (ha : StAt w a l) (hl : (l.length : Int) + ssz l ≤ 1048576) :
    Calls Try.prog 62 #[.slice a l.length c] w fun e w' => e = .returned (.int .i64 (wfault l)) ∧ Below w.heap.size w w' := by
  have HA := Hid.mk' ha
  clear ha
  go_enter Try.func62, Try.ntmps62
  go_wp2
  go_loop [3, 8] (fun y i => ∃ k : Nat, k ≤ l.length ∧ i = .int .i64 k ∧ y = .string (ahW l k) ∧ wfault l = wfA (ahW l k) (l.drop k)) (fun _ i => l.length - (intOf i).toNat)
  case atStart => exact ⟨0, Nat.zero_le _, rfl, rfl, rfl⟩
  case round =>
    obtain ⟨k, hk, rfl, rfl, hf⟩ := hrel
    have HF := Hid.mk' hf
    clear hf
    by_cases hlt : k < l.length
    · have ci : (k : Int) < (l.length : Int) := by omega
      rcases HA.out with ha | ⟨b, o, rfl, hbs, hc⟩
      · exact absurd hlt (by rw [ha]; exact Nat.not_lt_zero _)
      have h1 := hc k hlt
      have hz := sK_le l k hlt
      have ST := Hid.mk' (wfA_step l (ahW l k) k hlt)
      have AH : Hid (ahW l (k + 1) = sK l k) := Hid.mk' rfl
      clear hc
      generalize ahW l k = y at *
      generalize sK l k = x at *
      have KN : Hid (∀ W : World, Calls Try.prog 90 #[.string x] W fun e w' => e = .returned (.bool (nmB x)) ∧ w' = W) := fun W => isName_any _ W (by omega)
      cases hn : nmB x with
      | false =>
        have E : Hid (wfault l = 5) := Hid.mk' (by rw [HF.out, ST.out, hn]; rfl)
        rw [hn] at KN
        clear HF ST hz
        go_wp2_with fail
        refine (KN.out _).mono ?_
        rintro e w1 ⟨rfl, rfl⟩
        go_wp2
        go_ret
        exact ⟨by rw [E.out]; rfl, Below.refl _ _⟩
      | true =>
        rw [hn] at KN ST
        cases hle : (Op.bytesLess x.toList y.toList || (x.toList == y.toList)) with
        | true =>
          have E : Hid (wfault l = 1) := Hid.mk' (by rw [HF.out, ST.out, if_pos rfl, show leB x y = true from hle]; rfl)
          clear HF ST hz
          go_wp2_with fail
          refine (KN.out _).mono ?_
          rintro e w1 ⟨rfl, rfl⟩
          go_wp2
          go_ret
          exact ⟨by rw [E.out]; rfl, Below.refl _ _⟩
        | false =>
          have E : Hid (wfault l = wfA x (l.drop (k + 1))) := Hid.mk' (by rw [HF.out, ST.out, if_pos rfl, show leB x y = false from hle]; rfl)
          clear HF ST hz
          go_wp2_with fail
          refine (KN.out _).mono ?_
          rintro e w1 ⟨rfl, rfl⟩
          go_wp2
          go_round
          case rel => exact ⟨k + 1, by omega, by go_num, by rw [AH.out], by rw [E.out, AH.out]⟩
          case measure => simp [intOf]; omega
    · have ci : ¬ (k : Int) < (l.length : Int) := by omega
      have e : k = l.length := by omega
      subst e
      have E : Hid (wfault l = 0) := Hid.mk' (by rw [HF.out, List.drop_length]; rfl)
      clear HF
      go_wp2
      go_ret
      exact ⟨by rw [E.out]; rfl, Below.refl _ _⟩

set_option maxHeartbeats 1600000 in
theorem l8Words_any (a : Option Addr) (c : Nat) (l : List ByteArray) (w : World) (ha : StAt w a l) (hl : (l.length : Int) + ssz l ≤ 1048576) :
    Calls Try.prog 89 #[.slice a l.length c] w fun e w' => e = .returned (.int .i64 (wfault l)) ∧ Below w.heap.size w w' := by
  have HA := Hid.mk' ha
  clear ha
  go_enter Try.func89, Try.ntmps89
  go_wp2
  go_loopw [3] (fun i wr => ∃ k : Nat, k ≤ l.length ∧ i = .int .i64 k ∧ wfault l = wfA (ahW l k) (l.drop k) ∧ Below w.heap.size w wr) (fun i _ => l.length - (intOf i).toNat)
  case atStart => exact ⟨0, Nat.zero_le _, rfl, rfl, Below.refl _ _⟩
  case round =>
    obtain ⟨k, hk, rfl, hf, hbl⟩ := hrel
    have HF := Hid.mk' hf
    have HB := Hid.mk' hbl
    clear hf
    by_cases hlt : k < l.length
    · have ci : (k : Int) < (l.length : Int) := by omega
      rcases HA.out.below hbl with ha | ⟨b, o, rfl, hbs, hc⟩
      · exact absurd hlt (by rw [ha]; exact Nat.not_lt_zero _)
      have h1 := hc k hlt
      have hz := sK_le l k hlt
      have ST := Hid.mk' (wfA_step l (ahW l k) k hlt)
      have KN : Hid (∀ W : World, Calls Try.prog 105 #[.string (sK l k)] W fun e w' => e = .returned (.bool (nmB (sK l k))) ∧ w' = W) := fun W => l4Name_any _ W (by omega)
      cases hn : nmB (sK l k) with
      | false =>
        have E : Hid (wfault l = 5) := Hid.mk' (by rw [HF.out, ST.out, hn]; rfl)
        rw [hn] at KN
        clear HF ST hz hc hbl
        go_wp2_with fail
        refine (KN.out _).mono ?_
        rintro e w1 ⟨rfl, rfl⟩
        go_wp2
        go_ret
        exact ⟨by rw [E.out]; rfl, HB.out⟩
      | true =>
        rw [hn] at KN ST
        cases k with
        | zero =>
          have E : Hid (wfault l = wfA (sK l 0) (l.drop 1)) := Hid.mk' (by rw [HF.out, ST.out, if_pos rfl, show leB (sK l 0) (ahW l 0) = false from leB_none hn]; rfl)
          have d0 : decide ((((0 : Nat) : Int)) > 0) = false := by simp
          have d1 : decide ((0 : Int) > 0) = false := by simp
          have d2 : decide ((0 : Int) < 0) = false := by simp
          replace h1 : wr.cell? ⟨b, o, none⟩ = some (.string (sK l 0)) := by simpa using h1
          have AH : Hid (ahW l 1 = sK l 0) := Hid.mk' rfl
          clear HF ST hz hc hbl hn
          generalize sK l 0 = x at *
          go_wp2_with fail
          refine (KN.out _).mono ?_
          rintro e w1 ⟨rfl, rfl⟩
          go_wp2
          go_quiet (fail)
          go_wp2
          go_roundw
          case rel => exact ⟨1, by omega, by go_num, by rw [E.out, AH.out], below_drewN HB.out _⟩
          case measure => simp [intOf]; omega
        | succ j =>
          have h2 := hc j (by omega)
          have AH : Hid (ahW l (j + 1 + 1) = sK l (j + 1)) := Hid.mk' rfl
          have d0 : decide ((((j + 1 : Nat) : Int)) > 0) = true := by simp
          have d1 : decide ((j : Int) + 1 > 0) = true := by simp
          have d2 : decide ((0 : Int) < (j : Int) + 1) = true := by simp
          have jj : (j : Int) + 1 - 1 = j := by omega
          rw [show ahW l (j + 1) = sK l j from rfl] at ST HF
          clear hc hbl hn
          generalize sK l j = y at *
          generalize sK l (j + 1) = x at *
          cases hle : (Op.bytesLess x.toList y.toList || (x.toList == y.toList)) with
          | true =>
            have E : Hid (wfault l = 1) := Hid.mk' (by rw [HF.out, ST.out, if_pos rfl, show leB x y = true from hle]; rfl)
            clear HF ST hz
            go_wp2_with fail
            refine (KN.out _).mono ?_
            rintro e w1 ⟨rfl, rfl⟩
            go_wp2
            go_quiet (fail)
            go_wp2
            go_ret
            exact ⟨by rw [E.out]; rfl, below_drewN HB.out _⟩
          | false =>
            have E : Hid (wfault l = wfA x (l.drop (j + 1 + 1))) := Hid.mk' (by rw [HF.out, ST.out, if_pos rfl, show leB x y = false from hle]; rfl)
            clear HF ST hz
            go_wp2_with fail
            refine (KN.out _).mono ?_
            rintro e w1 ⟨rfl, rfl⟩
            go_wp2
            go_quiet (fail)
            go_wp2
            go_roundw
            case rel => exact ⟨j + 1 + 1, by omega, by go_num, by rw [E.out, AH.out], below_drewN HB.out _⟩
            case measure => simp [intOf]; omega
    · have ci : ¬ (k : Int) < (l.length : Int) := by omega
      have e : k = l.length := by omega
      subst e
      have E : Hid (wfault l = 0) := Hid.mk' (by rw [HF.out, List.drop_length]; rfl)
      clear HF
      go_wp2
      go_ret
      exact ⟨by rw [E.out]; rfl, HB.out⟩

/-- The code of a policy. -/
def polF (p : PO) : Int := if 10 < p.tg.length ∨ 10 < p.at_.length ∨ 10 < p.sc.length then 2 else if ¬ wfault p.tg = 0 then wfault p.tg else if ¬ wfault p.at_ = 0 then wfault p.at_ else wfault p.sc

end Go.Proofs.Ytbdjppiagjhfmaa
