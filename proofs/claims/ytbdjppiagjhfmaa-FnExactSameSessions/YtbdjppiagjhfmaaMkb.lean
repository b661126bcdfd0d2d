/- Memos that lie in memory; their sizes; they are copied, and told to be the same. -/
import Derived.Test.YtbdjppiagjhfmaaMka
namespace Go.Proofs.Ytbdjppiagjhfmaa
open Go.RowKit
set_option linter.unusedVariables false
set_option linter.unusedSimpArgs false

/-- A memo. -/
structure ME where
  dt : List Int
  st : Int
  tk : List TK
  hd : List Int
  cs : List CK

/-- A memo lies in memory: its four lists do. -/
def MAt (w : World) (a t u c : Option Addr) (m : ME) : Prop := BAt w a m.dt ∧ TsAt w t m.tk ∧ BAt w u m.hd ∧ CsAt w c m.cs

theorem MAt.below {w w' : World} {a t u c : Option Addr} {m : ME} (x : MAt w a t u c m) (hb : Below w.heap.size w w') : MAt w' a t u c m :=
  ⟨x.1.below hb, x.2.1.below hb, x.2.2.1.below hb, x.2.2.2.below hb⟩

/-- Its size. -/
def msz (m : ME) : Nat := m.dt.length + m.tk.length + tssz m.tk + m.hd.length + m.cs.length + csz m.cs

/-- Nothing of it is wider than a machine's. -/
def WideM (m : ME) : Prop := (m.dt.length : Int) ≤ 9223372036854775807 ∧ WideT m.tk ∧ (m.tk.length : Int) ≤ 9223372036854775807 ∧ (m.hd.length : Int) ≤ 9223372036854775807 ∧ WideC m.cs ∧ (m.cs.length : Int) ≤ 9223372036854775807


set_option maxHeartbeats 1600000 in
theorem szMemo_any (m : ME) (a t u c : Option Addr) (ca ct ch cc : Nat) (z : Int) (w : World) (hm : MAt w a t u c m) (hw : WideM m) (h0 : 0 ≤ z) (h1 : z ≤ 1048576) :
    Calls Try.prog 45 #[.agg #[.slice a m.dt.length ca, .int .i64 m.st, .slice t m.tk.length ct, .slice u m.hd.length ch, .slice c m.cs.length cc], .int .i64 z] w fun e w' => e = .returned (.int .i64 (if z < (msz m : Int) then -1 else z - msz m)) ∧ Below w.heap.size w w' := by
  have N0 := below_new w (.cells #[.slice a m.dt.length ca, .int .i64 m.st, .slice t m.tk.length ct, .slice u m.hd.length ch, .slice c m.cs.length cc] 57)
  have HP := Hid.mk' (row5 w 57 (.slice a m.dt.length ca) (.int .i64 m.st) (.slice t m.tk.length ct) (.slice u m.hd.length ch) (.slice c m.cs.length cc))
  have HM := Hid.mk' (hm.below N0)
  have HB := Hid.mk' N0
  have HW := Hid.mk' hw
  obtain ⟨w1, _, w3, w4, _, w6⟩ := hw
  have MS : (msz m : Int) = m.dt.length + m.tk.length + tssz m.tk + m.hd.length + m.cs.length + csz m.cs := by unfold msz; omega
  have MSH := Hid.mk' MS
  clear N0 hm
  by_cases g1 : z < (m.dt.length : Int)
  · rw [if_pos (by omega)]
    clear MS
    go_enter Try.func45, Try.ntmps45
    go_wp2_with (go_at_call 28; refine (szByteS_any _ _ _ _ _ (by omega) (by omega) (by omega)).mono ?_; rintro e w' ⟨rfl, rfl⟩)
    go_ret
    exact ⟨rfl, HB.out⟩
  have gd : ¬ (z - (m.dt.length : Int) < 0) := by omega
  have KT := szTokenS_any t ct m.tk (z - (m.dt.length : Int)) _ HM.out.2.1 HW.out.2.1 (by omega) (by omega) w3
  by_cases g2 : z - (m.dt.length : Int) < (m.tk.length : Int) + tssz m.tk
  · rw [if_pos g2] at KT
    rw [if_pos (by omega)]
    have KT := Hid.mk' KT
    clear MS
    go_enter Try.func45, Try.ntmps45
    go_wp2_with (first | (go_at_call 28; refine (szByteS_any _ _ _ _ _ (by omega) (by omega) (by omega)).mono ?_; rintro e w' ⟨rfl, rfl⟩) | fail)
    refine KT.out.mono ?_
    rintro e v1 ⟨rfl, hb⟩
    have HB := Hid.mk' (HB.out.trans (hb.mono HB.out.size))
    clear hb KT
    go_wp2
    go_ret
    exact ⟨rfl, HB.out⟩
  rw [if_neg g2] at KT
  have KT := Hid.mk' KT
  generalize hW : w.alloc (.cells #[.slice a m.dt.length ca, .int .i64 m.st, .slice t m.tk.length ct, .slice u m.hd.length ch, .slice c m.cs.length cc] 57) = W at *
  have c0 : W.cell? ⟨w.heap.size, 0, none⟩ = some (.slice a m.dt.length ca) := (cells5 HP.out).1
  have c2 : W.cell? ⟨w.heap.size, 2, none⟩ = some (.slice t m.tk.length ct) := (cells5 HP.out).2.2.1
  have ge : ¬ (z - (m.dt.length : Int) - m.tk.length - tssz m.tk < 0) := by omega
  generalize hIF : (if z < (msz m : Int) then (-1 : Int) else z - msz m) = R at *
  have HIF := Hid.mk' hIF
  clear hIF MS
  go_enter Try.func45, Try.ntmps45
  go_wp2_with (first | (go_at_call 28; refine (szByteS_any _ _ _ _ _ (by omega) (by omega) (by omega)).mono ?_; rintro e w' ⟨rfl, rfl⟩) | fail)
  clear hW c0 c2
  refine KT.out.mono ?_
  rintro e v1 ⟨rfl, hb⟩
  have HP := Hid.mk' (rowB HP.out hb)
  have HM := Hid.mk' (HM.out.below hb)
  have HB := Hid.mk' (HB.out.trans (hb.mono HB.out.size))
  clear hb KT
  have c3 : v1.cell? ⟨w.heap.size, 3, none⟩ = some (.slice u m.hd.length ch) := (cells5 HP.out).2.2.2.1
  by_cases g3 : z - (m.dt.length : Int) - m.tk.length - tssz m.tk < (m.hd.length : Int)
  · go_wp2_with (go_at_call 28; refine (szByteS_any _ _ _ _ _ (by omega) (by omega) (by omega)).mono ?_; rintro e w' ⟨rfl, rfl⟩)
    go_ret
    refine ⟨?_, HB.out⟩
    rw [← HIF.out, if_pos (by have := MSH.out; omega)]; rfl
  have gf : ¬ (z - (m.dt.length : Int) - m.tk.length - tssz m.tk - m.hd.length < 0) := by omega
  have KC := szCheckS_any c cc m.cs (z - (m.dt.length : Int) - m.tk.length - tssz m.tk - m.hd.length) v1 HM.out.2.2.2 HW.out.2.2.2.2.1 (by omega) (by omega) w6
  have c4 : v1.cell? ⟨w.heap.size, 4, none⟩ = some (.slice c m.cs.length cc) := (cells5 HP.out).2.2.2.2.1
  by_cases g4 : z - (m.dt.length : Int) - m.tk.length - tssz m.tk - m.hd.length < (m.cs.length : Int) + csz m.cs
  · rw [if_pos g4] at KC
    have KC := Hid.mk' KC
    go_wp2_with (first | (go_at_call 28; refine (szByteS_any _ _ _ _ _ (by omega) (by omega) (by omega)).mono ?_; rintro e w' ⟨rfl, rfl⟩) | fail)
    refine KC.out.mono ?_
    rintro e v2 ⟨rfl, hb⟩
    have HB := Hid.mk' (HB.out.trans (hb.mono HB.out.size))
    clear hb KC
    go_wp2
    go_ret
    refine ⟨?_, HB.out⟩
    rw [← HIF.out, if_pos (by have := MSH.out; omega)]; rfl
  rw [if_neg g4] at KC
  have KC := Hid.mk' KC
  have gg : ¬ (z - (m.dt.length : Int) - m.tk.length - tssz m.tk - m.hd.length - m.cs.length - csz m.cs < 0) := by omega
  go_wp2_with (first | (go_at_call 28; refine (szByteS_any _ _ _ _ _ (by omega) (by omega) (by omega)).mono ?_; rintro e w' ⟨rfl, rfl⟩) | fail)
  refine KC.out.mono ?_
  rintro e v2 ⟨rfl, hb⟩
  have HB := Hid.mk' (HB.out.trans (hb.mono HB.out.size))
  clear hb KC
  go_wp2
  go_ret
  refine ⟨?_, HB.out⟩
  rw [← HIF.out, if_neg (by have := MSH.out; omega)]
  have := MSH.out
  first | rfl | (congr 2; omega) | (congr 3; omega) | (congr 2; simp; omega)


/-- While a memo is copied: what was given, the answer's box, the memo in its box. -/
structure MB (w : World) (p0 p1 p2 p3 p4 o0 o1 o2 o3 o4 : Value) (wi : World) : Prop where
  bl : Below w.heap.size w wi
  pr : wi.rowIs w.heap.size 57 5 (r5 p0 p1 p2 p3 p4)
  rr : wi.rowIs (w.heap.size + 1) 68 5 (r5 (.slice none 0 0) (.int .i64 0) (.slice none 0 0) (.slice none 0 0) (.slice none 0 0))
  ro : wi.rowIs (w.heap.size + 1 + 1) 68 5 (r5 o0 o1 o2 o3 o4)

theorem MB.below {w wi wj : World} {p0 p1 p2 p3 p4 o0 o1 o2 o3 o4 : Value} (x : MB w p0 p1 p2 p3 p4 o0 o1 o2 o3 o4 wi) (hb : Below wi.heap.size wi wj) : MB w p0 p1 p2 p3 p4 o0 o1 o2 o3 o4 wj :=
  ⟨x.bl.trans (hb.mono x.bl.size), rowB x.pr hb, rowB x.rr hb, rowB x.ro hb⟩

theorem MB.start (w : World) (p0 p1 p2 p3 p4 : Value) : MB w p0 p1 p2 p3 p4 (.slice none 0 0) (.int .i64 0) (.slice none 0 0) (.slice none 0 0) (.slice none 0 0) (((w.alloc (.cells #[p0, p1, p2, p3, p4] 57)).alloc (.cells #[.slice none 0 0, .int .i64 0, .slice none 0 0, .slice none 0 0, .slice none 0 0] 68)).alloc (.cells #[.slice none 0 0, .int .i64 0, .slice none 0 0, .slice none 0 0, .slice none 0 0] 68)) := by
  have R1 := (row5 (w.alloc (.cells #[p0, p1, p2, p3, p4] 57)) 68 (.slice none 0 0) (.int .i64 0) (.slice none 0 0) (.slice none 0 0) (.slice none 0 0)).alloc (.cells #[.slice none 0 0, .int .i64 0, .slice none 0 0, .slice none 0 0, .slice none 0 0] 68)
  have R2 := row5 ((w.alloc (.cells #[p0, p1, p2, p3, p4] 57)).alloc (.cells #[.slice none 0 0, .int .i64 0, .slice none 0 0, .slice none 0 0, .slice none 0 0] 68)) 68 (.slice none 0 0) (.int .i64 0) (.slice none 0 0) (.slice none 0 0) (.slice none 0 0)
  rw [show (w.alloc (.cells #[p0, p1, p2, p3, p4] 57)).heap.size = w.heap.size + 1 from by simp] at R1
  rw [show ((w.alloc (.cells #[p0, p1, p2, p3, p4] 57)).alloc (.cells #[.slice none 0 0, .int .i64 0, .slice none 0 0, .slice none 0 0, .slice none 0 0] 68)).heap.size = w.heap.size + 1 + 1 from by simp] at R2
  exact ⟨(((Below.refl w.heap.size w).alloc (Nat.le_refl _) _).alloc (by simp) _).alloc (by simp; omega) _, ((row5 w 57 p0 p1 p2 p3 p4).alloc _).alloc _, R1, R2⟩


theorem MB.set0 {w wi : World} {p0 p1 p2 p3 p4 o0 o1 o2 o3 o4 : Value} (x : MB w p0 p1 p2 p3 p4 o0 o1 o2 o3 o4 wi) (v : Value) : MB w p0 p1 p2 p3 p4 v o1 o2 o3 o4 (wi.setCell ⟨w.heap.size + 1 + 1, 0, none⟩ v) := by
  have K := (KeptIn.refl (w.heap.size + 1 + 1) (w.heap.size + 1 + 1 + 1) wi).setCell (p := ⟨w.heap.size + 1 + 1, 0, none⟩) (by simp) (by simp) v
  have := x.ro.lt
  exact ⟨x.bl.trans (K.below (by omega) (by omega)), rowK x.pr K (.inl (by omega)), rowK x.rr K (.inl (by omega)), (x.ro.set 0 v).congr (fun j hj => by
    have h : j = 0 ∨ j = 1 ∨ j = 2 ∨ j = 3 ∨ j = 4 := by omega
    rcases h with rfl | rfl | rfl | rfl | rfl <;> simp [r5])⟩


theorem MB.set1 {w wi : World} {p0 p1 p2 p3 p4 o0 o1 o2 o3 o4 : Value} (x : MB w p0 p1 p2 p3 p4 o0 o1 o2 o3 o4 wi) (v : Value) : MB w p0 p1 p2 p3 p4 o0 v o2 o3 o4 (wi.setCell ⟨w.heap.size + 1 + 1, 1, none⟩ v) := by
  have K := (KeptIn.refl (w.heap.size + 1 + 1) (w.heap.size + 1 + 1 + 1) wi).setCell (p := ⟨w.heap.size + 1 + 1, 1, none⟩) (by simp) (by simp) v
  have := x.ro.lt
  exact ⟨x.bl.trans (K.below (by omega) (by omega)), rowK x.pr K (.inl (by omega)), rowK x.rr K (.inl (by omega)), (x.ro.set 1 v).congr (fun j hj => by
    have h : j = 0 ∨ j = 1 ∨ j = 2 ∨ j = 3 ∨ j = 4 := by omega
    rcases h with rfl | rfl | rfl | rfl | rfl <;> simp [r5])⟩


theorem MB.set2 {w wi : World} {p0 p1 p2 p3 p4 o0 o1 o2 o3 o4 : Value} (x : MB w p0 p1 p2 p3 p4 o0 o1 o2 o3 o4 wi) (v : Value) : MB w p0 p1 p2 p3 p4 o0 o1 v o3 o4 (wi.setCell ⟨w.heap.size + 1 + 1, 2, none⟩ v) := by
  have K := (KeptIn.refl (w.heap.size + 1 + 1) (w.heap.size + 1 + 1 + 1) wi).setCell (p := ⟨w.heap.size + 1 + 1, 2, none⟩) (by simp) (by simp) v
  have := x.ro.lt
  exact ⟨x.bl.trans (K.below (by omega) (by omega)), rowK x.pr K (.inl (by omega)), rowK x.rr K (.inl (by omega)), (x.ro.set 2 v).congr (fun j hj => by
    have h : j = 0 ∨ j = 1 ∨ j = 2 ∨ j = 3 ∨ j = 4 := by omega
    rcases h with rfl | rfl | rfl | rfl | rfl <;> simp [r5])⟩


theorem MB.set3 {w wi : World} {p0 p1 p2 p3 p4 o0 o1 o2 o3 o4 : Value} (x : MB w p0 p1 p2 p3 p4 o0 o1 o2 o3 o4 wi) (v : Value) : MB w p0 p1 p2 p3 p4 o0 o1 o2 v o4 (wi.setCell ⟨w.heap.size + 1 + 1, 3, none⟩ v) := by
  have K := (KeptIn.refl (w.heap.size + 1 + 1) (w.heap.size + 1 + 1 + 1) wi).setCell (p := ⟨w.heap.size + 1 + 1, 3, none⟩) (by simp) (by simp) v
  have := x.ro.lt
  exact ⟨x.bl.trans (K.below (by omega) (by omega)), rowK x.pr K (.inl (by omega)), rowK x.rr K (.inl (by omega)), (x.ro.set 3 v).congr (fun j hj => by
    have h : j = 0 ∨ j = 1 ∨ j = 2 ∨ j = 3 ∨ j = 4 := by omega
    rcases h with rfl | rfl | rfl | rfl | rfl <;> simp [r5])⟩


theorem MB.set4 {w wi : World} {p0 p1 p2 p3 p4 o0 o1 o2 o3 o4 : Value} (x : MB w p0 p1 p2 p3 p4 o0 o1 o2 o3 o4 wi) (v : Value) : MB w p0 p1 p2 p3 p4 o0 o1 o2 o3 v (wi.setCell ⟨w.heap.size + 1 + 1, 4, none⟩ v) := by
  have K := (KeptIn.refl (w.heap.size + 1 + 1) (w.heap.size + 1 + 1 + 1) wi).setCell (p := ⟨w.heap.size + 1 + 1, 4, none⟩) (by simp) (by simp) v
  have := x.ro.lt
  exact ⟨x.bl.trans (K.below (by omega) (by omega)), rowK x.pr K (.inl (by omega)), rowK x.rr K (.inl (by omega)), (x.ro.set 4 v).congr (fun j hj => by
    have h : j = 0 ∨ j = 1 ∨ j = 2 ∨ j = 3 ∨ j = 4 := by omega
    rcases h with rfl | rfl | rfl | rfl | rfl <;> simp [r5])⟩


/-- Checks of one's own at g, just as they are. -/
def CX (g : Nat) (l : List CK) (w : World) : Prop := ∃ (f : Nat → Value) (β : Nat → Nat), w.rowIs g 141 (l.length * 3) f ∧ ∀ j, j < l.length → f (j * 3) = .int .i64 (ckK l j).pl ∧ f (j * 3 + 1) = .int .i64 (ckK l j).ct ∧ f (j * 3 + 2) = .slice (some ⟨β j, 0, none⟩) (ckK l j).hd.length (ckK l j).hd.length ∧ g < β j ∧ w.rowIs (β j) 5 (ckK l j).hd.length (bv (ckK l j).hd) ∧ ∀ i, i < j → β i < β j

theorem CR.cx {w wr : World} {l : List CK} (h : CR w l l.length wr) : CX w.heap.size l wr := h.row

theorem CX.keep {g : Nat} {l : List CK} {w w' : World} (h : CX g l w) (hk : ∀ q, g ≤ q → q < w.heap.size → w'.heap[q]? = w.heap[q]?) : CX g l w' := by
  obtain ⟨f, β, hf, hj⟩ := h
  refine ⟨f, β, hf.of_block (hk g (Nat.le_refl _) hf.lt), fun j hl => ?_⟩
  obtain ⟨h1, h2, h3, h4, h5, h6⟩ := hj j hl
  exact ⟨h1, h2, h3, h4, h5.of_block (hk _ (by omega) h5.lt), h6⟩

theorem CX.at {g : Nat} {l : List CK} {w : World} (h : CX g l w) : CsAt w (some ⟨g, 0, none⟩) l := by
  obtain ⟨f, β, hf, hj⟩ := h
  refine .inr ⟨_, _, rfl, hf.lt, fun k hk => ?_⟩
  obtain ⟨h1, h2, h3, h4, h5, h6⟩ := hj k hk
  have c := fun i (hi : i < 3) => hf.cell (show k * 3 + i < l.length * 3 by omega)
  refine ⟨by rw [Nat.zero_add]; exact (c 0 (by omega)).trans (by rw [Nat.add_zero, h1]), by rw [Nat.zero_add, c 1 (by omega), h2], _, _, by rw [Nat.zero_add, c 2 (by omega), h3], .of_row h5⟩

/-- Tokens that were copied stay where they are. -/
theorem TR.at_keep {w wr w' : World} {l : List TK} (h : TR w l l.length wr) (hk : ∀ q, w.heap.size ≤ q → q < wr.heap.size → w'.heap[q]? = wr.heap[q]?) : TsAt w' (some ⟨w.heap.size, 0, none⟩) l := by
  obtain ⟨f, hf, hj⟩ := h.row
  have hf' := hf.of_block (hk _ (Nat.le_refl _) hf.lt)
  refine .inr ⟨_, _, rfl, hf'.lt, fun k hl => ?_⟩
  obtain ⟨h1, h2, h3, ⟨g, h4, h5, fa, h6, h7⟩, h8⟩ := hj k hl
  have ao : AO g (tkK l k).at_ w' := ⟨fa, h6.of_block (hk _ (by omega) h6.lt), fun i hi => by
    obtain ⟨e1, b, e2, e3, e4⟩ := h7 i hi
    exact ⟨e1, b, e2, e3, e4.of_block (hk _ (by omega) e4.lt)⟩⟩
  have c := fun i (hi : i < 5) => hf'.cell (show k * 5 + i < l.length * 5 by omega)
  refine ⟨by rw [Nat.zero_add]; exact (c 0 (by omega)).trans (by rw [Nat.add_zero, h1]), by rw [Nat.zero_add, c 1 (by omega), h2], by rw [Nat.zero_add, c 2 (by omega), h3], ⟨_, _, by rw [Nat.zero_add, c 3 (by omega), h4], ao.at⟩, by rw [Nat.zero_add, c 4 (by omega), h8]⟩

/-- A memo of one's own, just as it is: Data at gd, Tokens at gt (T: how they were made), Held at gh, Checks at gc; all from lo on. -/
structure MX (T : World → World → Prop) (lo gd gt gh gc : Nat) (m : ME) (w : World) : Prop where
  d : w.rowIs gd 5 m.dt.length (bv m.dt)
  t : ∃ wa wb, wa.heap.size = gt ∧ T wa wb ∧ wb.heap.size ≤ gh ∧ ∀ q, gt ≤ q → q < wb.heap.size → w.heap[q]? = wb.heap[q]?
  h : w.rowIs gh 5 m.hd.length (bv m.hd)
  c : CX gc m.cs w
  o1 : lo ≤ gd
  o2 : gd < gt
  o3 : gt ≤ gh
  o4 : gh < gc

theorem MX.keep {T : World → World → Prop} {lo gd gt gh gc : Nat} {m : ME} {w w' : World} (x : MX T lo gd gt gh gc m w) (hk : ∀ q, lo ≤ q → q < w.heap.size → w'.heap[q]? = w.heap[q]?) : MX T lo gd gt gh gc m w' := by
  have k0 := x.d.lt
  have k1 := x.h.lt
  have o1 := x.o1
  have o2 := x.o2
  have o3 := x.o3
  have o4 := x.o4
  refine ⟨x.d.of_block (hk _ o1 k0), ?_, x.h.of_block (hk _ (by omega) k1), x.c.keep (fun q a b => hk q (by omega) b), o1, o2, o3, o4⟩
  obtain ⟨wa, wb, e1, h1, h2, h4⟩ := x.t
  exact ⟨wa, wb, e1, h1, h2, fun q a b => (hk q (by omega) (by omega)).trans (h4 q a b)⟩

theorem MX.below {T : World → World → Prop} {lo gd gt gh gc : Nat} {m : ME} {w w' : World} (x : MX T lo gd gt gh gc m w) (hb : Below w.heap.size w w') : MX T lo gd gt gh gc m w' :=
  x.keep (fun q _ h => hb.block q h)

theorem MX.at {lo gd gt gh gc : Nat} {m : ME} {w : World} (x : MX (fun wa wb => TR wa m.tk m.tk.length wb) lo gd gt gh gc m w) : MAt w (some ⟨gd, 0, none⟩) (some ⟨gt, 0, none⟩) (some ⟨gh, 0, none⟩) (some ⟨gc, 0, none⟩) m := by
  obtain ⟨wa, wb, e1, h1, h2, h4⟩ := x.t
  subst e1
  exact ⟨.of_row x.d, h1.at_keep h4, .of_row x.h, x.c.at⟩


set_option maxRecDepth 100000 in
set_option maxHeartbeats 6400000 in
theorem toMemo_gen (T : World → World → Prop) (m : ME) (a t u c : Option Addr) (ca ct ch cc : Nat) (w : World) (hm : MAt w a t u c m) (hl : (msz m : Int) ≤ 1048576)
    (hT : ∀ v, TsAt v t m.tk → Calls Try.prog 78 #[.slice t m.tk.length ct] v fun e v' => e = .returned (.slice (some ⟨v.heap.size, 0, none⟩) m.tk.length m.tk.length) ∧ T v v' ∧ Below v.heap.size v v') :
    Calls Try.prog 50 #[.agg #[.slice a m.dt.length ca, .int .i64 m.st, .slice t m.tk.length ct, .slice u m.hd.length ch, .slice c m.cs.length cc]] w fun e w' => ∃ gd gt gh gc, e = .returned (.agg #[.slice (some ⟨gd, 0, none⟩) m.dt.length m.dt.length, .int .i64 m.st, .slice (some ⟨gt, 0, none⟩) m.tk.length m.tk.length, .slice (some ⟨gh, 0, none⟩) m.hd.length m.hd.length, .slice (some ⟨gc, 0, none⟩) m.cs.length m.cs.length]) ∧ MX T w.heap.size gd gt gh gc m w' ∧ Below w.heap.size w w' := by
  have MS : (msz m : Int) = m.dt.length + m.tk.length + tssz m.tk + m.hd.length + m.cs.length + csz m.cs := by unfold msz; omega
  have s1 : (m.dt.length : Int) ≤ 1048576 := by omega
  have s2 : (m.hd.length : Int) ≤ 1048576 := by omega
  have s3 : (m.cs.length : Int) + csz m.cs ≤ 1048576 := by omega
  have HT := Hid.mk' hT
  clear MS hl hT
  have M0 := MB.start w (.slice a m.dt.length ca) (.int .i64 m.st) (.slice t m.tk.length ct) (.slice u m.hd.length ch) (.slice c m.cs.length cc)
  have HM := Hid.mk' hm
  have H0 := Hid.mk' M0
  clear M0 hm
  generalize hW : ((w.alloc (.cells #[.slice a m.dt.length ca, .int .i64 m.st, .slice t m.tk.length ct, .slice u m.hd.length ch, .slice c m.cs.length cc] 57)).alloc (.cells #[.slice none 0 0, .int .i64 0, .slice none 0 0, .slice none 0 0, .slice none 0 0] 68)).alloc (.cells #[.slice none 0 0, .int .i64 0, .slice none 0 0, .slice none 0 0, .slice none 0 0] 68) = W at *
  have KB := Hid.mk' (toByteS_any a ca m.dt W (HM.out.below H0.out.bl).1 s1)
  have p0 : W.cell? ⟨w.heap.size, 0, none⟩ = some (.slice a m.dt.length ca) := (cells5 H0.out.pr).1
  go_enter Try.func50, Try.ntmps50
  go_wp2_with fail
  clear hW p0
  refine KB.out.mono ?_
  rintro e w1 ⟨gd, rfl, hgd, hrd, hb1⟩
  have M1 := H0.out.below hb1
  have z0 := H0.out.ro.lt
  have z1 := hrd.lt
  have o0 : w1.cell? ⟨w.heap.size + 1 + 1, 0, none⟩ = some (.slice none 0 0) := (cells5 M1.ro).1
  have o1 : w1.cell? ⟨w.heap.size + 1 + 1, 1, none⟩ = some (.int .i64 0) := (cells5 M1.ro).2.1
  have fo0 := M1.ro.frozen 0
  have fo1 := M1.ro.frozen 1
  have p1 : w1.cell? ⟨w.heap.size, 1, none⟩ = some (.int .i64 m.st) := (cells5 M1.pr).2.1
  have M2 := (M1.set0 (.slice (some ⟨gd, 0, none⟩) m.dt.length m.dt.length)).set1 (.int .i64 m.st)
  have K2 := ((KeptIn.refl (w.heap.size + 1 + 1) (w.heap.size + 1 + 1 + 1) w1).setCell (p := ⟨w.heap.size + 1 + 1, 0, none⟩) (by simp) (by simp) (.slice (some ⟨gd, 0, none⟩) m.dt.length m.dt.length)).setCell (p := ⟨w.heap.size + 1 + 1, 1, none⟩) (by simp) (by simp) (.int .i64 m.st)
  have RD := Hid.mk' (rowK hrd K2 (.inr (by omega)))
  have KT := Hid.mk' (HT.out _ (HM.out.below M2.bl).2.1)
  have HM2 := Hid.mk' M2
  have Z1 : Hid (gd < ((w1.setCell ⟨w.heap.size + 1 + 1, 0, none⟩ (.slice (some ⟨gd, 0, none⟩) m.dt.length m.dt.length)).setCell ⟨w.heap.size + 1 + 1, 1, none⟩ (.int .i64 m.st)).heap.size) := Hid.mk' RD.out.lt
  have ZD : Hid (w.heap.size + 1 + 1 < gd) := Hid.mk' (by omega)
  have p2_ : ((w1.setCell ⟨w.heap.size + 1 + 1, 0, none⟩ (.slice (some ⟨gd, 0, none⟩) m.dt.length m.dt.length)).setCell ⟨w.heap.size + 1 + 1, 1, none⟩ (.int .i64 m.st)).cell? ⟨w.heap.size, 2, none⟩ = some (.slice t m.tk.length ct) := (cells5 M2.pr).2.2.1
  clear hrd hb1 M1 M2 K2 KB H0 hgd z0 z1 HT
  generalize hV1 : (w1.setCell ⟨w.heap.size + 1 + 1, 0, none⟩ (.slice (some ⟨gd, 0, none⟩) m.dt.length m.dt.length)).setCell ⟨w.heap.size + 1 + 1, 1, none⟩ (.int .i64 m.st) = V1 at *
  go_wp2_with fail
  clear hV1 o0 o1 fo0 fo1 p1 p2_
  refine KT.out.mono ?_
  rintro e w2 ⟨rfl, hTT, hb2⟩
  have M3 := HM2.out.below hb2
  have o2 : w2.cell? ⟨w.heap.size + 1 + 1, 2, none⟩ = some (.slice none 0 0) := (cells5 M3.ro).2.2.1
  have fo2 := M3.ro.frozen 2
  have M4 := M3.set2 (.slice (some ⟨V1.heap.size, 0, none⟩) m.tk.length m.tk.length)
  have z0 := HM2.out.ro.lt
  have zg := Z1.out
  have zd := ZD.out
  have K4 := (KeptIn.refl (w.heap.size + 1 + 1) (w.heap.size + 1 + 1 + 1) w2).setCell (p := ⟨w.heap.size + 1 + 1, 2, none⟩) (by simp) (by simp) (.slice (some ⟨V1.heap.size, 0, none⟩) m.tk.length m.tk.length)
  have RD := Hid.mk' (rowK (rowB RD.out hb2) K4 (.inr (by omega)))
  have KH := Hid.mk' (toByteS_any u ch m.hd _ (HM.out.below M4.bl).2.2.1 s2)
  have HM4 := Hid.mk' M4
  have BT : Hid (Below V1.heap.size V1 (w2.setCell ⟨w.heap.size + 1 + 1, 2, none⟩ (.slice (some ⟨V1.heap.size, 0, none⟩) m.tk.length m.tk.length)) ∨ True) := Hid.mk' (.inr trivial)
  have ST : Hid (∀ q, V1.heap.size ≤ q → q < w2.heap.size → (w2.setCell ⟨w.heap.size + 1 + 1, 2, none⟩ (.slice (some ⟨V1.heap.size, 0, none⟩) m.tk.length m.tk.length)).heap[q]? = w2.heap[q]?) := Hid.mk' (fun q a _ => Deep.blk_setCell_other _ _ _ _ (by show q ≠ w.heap.size + 1 + 1; omega))
  have SZ : Hid ((w2.setCell ⟨w.heap.size + 1 + 1, 2, none⟩ (.slice (some ⟨V1.heap.size, 0, none⟩) m.tk.length m.tk.length)).heap.size = w2.heap.size) := Hid.mk' (by simp [World.setCell])
  have S2 : Hid (V1.heap.size ≤ w2.heap.size) := Hid.mk' hb2.size
  have TT := Hid.mk' hTT
  have p3 : (w2.setCell ⟨w.heap.size + 1 + 1, 2, none⟩ (.slice (some ⟨V1.heap.size, 0, none⟩) m.tk.length m.tk.length)).cell? ⟨w.heap.size, 3, none⟩ = some (.slice u m.hd.length ch) := (cells5 M4.pr).2.2.2.1
  clear M3 M4 K4 KT hb2 hTT z0 zg zd BT
  generalize hV2 : w2.setCell ⟨w.heap.size + 1 + 1, 2, none⟩ (.slice (some ⟨V1.heap.size, 0, none⟩) m.tk.length m.tk.length) = V2 at *
  go_wp2_with fail
  clear hV2 o2 fo2 p3
  refine KH.out.mono ?_
  rintro e w3 ⟨gh, rfl, hgh, hrh, hb3⟩
  have M5 := HM4.out.below hb3
  have o3 : w3.cell? ⟨w.heap.size + 1 + 1, 3, none⟩ = some (.slice none 0 0) := (cells5 M5.ro).2.2.2.1
  have fo3 := M5.ro.frozen 3
  have M6 := M5.set3 (.slice (some ⟨gh, 0, none⟩) m.hd.length m.hd.length)
  have z0 := HM4.out.ro.lt
  have zg := Z1.out
  have zd := ZD.out
  have sz := SZ.out
  have s2' := S2.out
  have rl := RD.out.lt
  have hl3 := hrh.lt
  have K6 := (KeptIn.refl (w.heap.size + 1 + 1) (w.heap.size + 1 + 1 + 1) w3).setCell (p := ⟨w.heap.size + 1 + 1, 3, none⟩) (by simp) (by simp) (.slice (some ⟨gh, 0, none⟩) m.hd.length m.hd.length)
  have RD := Hid.mk' (rowK (rowB RD.out hb3) K6 (.inr (by omega)))
  have RH := Hid.mk' (rowK hrh K6 (.inr (by omega)))
  have GH : Hid (w2.heap.size ≤ gh) := Hid.mk' (by omega)
  have ST : Hid (∀ q, V1.heap.size ≤ q → q < w2.heap.size → (w3.setCell ⟨w.heap.size + 1 + 1, 3, none⟩ (.slice (some ⟨gh, 0, none⟩) m.hd.length m.hd.length)).heap[q]? = w2.heap[q]?) := Hid.mk' (fun q a b => (Deep.blk_setCell_other _ _ _ _ (by show q ≠ w.heap.size + 1 + 1; omega)).trans ((hb3.block q (by omega)).trans (ST.out q a b)))
  have KC := Hid.mk' (toCheckS_any c cc m.cs _ (HM.out.below M6.bl).2.2.2 s3)
  have HM6 := Hid.mk' M6
  have p4 : (w3.setCell ⟨w.heap.size + 1 + 1, 3, none⟩ (.slice (some ⟨gh, 0, none⟩) m.hd.length m.hd.length)).cell? ⟨w.heap.size, 4, none⟩ = some (.slice c m.cs.length cc) := (cells5 M6.pr).2.2.2.2.1
  have L3 : Hid (gh < (w3.setCell ⟨w.heap.size + 1 + 1, 3, none⟩ (.slice (some ⟨gh, 0, none⟩) m.hd.length m.hd.length)).heap.size) := Hid.mk' RH.out.lt
  clear M5 M6 K6 KH hb3 hgh hrh z0 zg zd sz s2' rl hl3 SZ
  generalize hV3 : w3.setCell ⟨w.heap.size + 1 + 1, 3, none⟩ (.slice (some ⟨gh, 0, none⟩) m.hd.length m.hd.length) = V3 at *
  go_wp2_with fail
  clear hV3 o3 fo3 p4
  refine KC.out.mono ?_
  rintro e w4 ⟨rfl, hcr⟩
  have hb4 := hcr.bl
  have M7 := HM6.out.below hb4
  obtain ⟨o0, o1, o2, o3, o4, o5⟩ := cells5 M7.ro
  obtain ⟨r0, r1, r2, r3_, r4_, r5_⟩ := cells5 M7.rr
  have fo4 := M7.ro.frozen 4
  have fr0 := M7.rr.frozen 0
  have fr1 := M7.rr.frozen 1
  have fr2 := M7.rr.frozen 2
  have fr3 := M7.rr.frozen 3
  have fr4 := M7.rr.frozen 4
  have HM7 := Hid.mk' M7
  have HC := Hid.mk' hcr
  have B4 := Hid.mk' hb4
  clear M7 hcr hb4 KC
  go_wp2
  refine bodyPost_ret (v := .agg #[.slice (some ⟨gd, 0, none⟩) m.dt.length m.dt.length, .int .i64 m.st, .slice (some ⟨V1.heap.size, 0, none⟩) m.tk.length m.tk.length, .slice (some ⟨gh, 0, none⟩) m.hd.length m.hd.length, .slice (some ⟨V3.heap.size, 0, none⟩) m.cs.length m.cs.length]) (by simp [results, Try.results50, go_sem, *]) rfl ?_
  have z0 := HM2.out.ro.lt
  have zd := ZD.out
  have zg := Z1.out
  have s2' := S2.out
  have gh' := GH.out
  have l3 := L3.out
  have l7 := HM7.out.ro.lt
  have KK := ((((((KeptIn.refl (w.heap.size + 1) (w.heap.size + 1 + 1 + 1) w4).setCell (p := ⟨w.heap.size + 1 + 1, 4, none⟩) (by simp) (by simp) (.slice (some ⟨V3.heap.size, 0, none⟩) m.cs.length m.cs.length)).setCell (p := ⟨w.heap.size + 1, 0, none⟩) (by simp) (by simp) (.slice (some ⟨gd, 0, none⟩) m.dt.length m.dt.length)).setCell (p := ⟨w.heap.size + 1, 1, none⟩) (by simp) (by simp) (.int .i64 m.st)).setCell (p := ⟨w.heap.size + 1, 2, none⟩) (by simp) (by simp) (.slice (some ⟨V1.heap.size, 0, none⟩) m.tk.length m.tk.length)).setCell (p := ⟨w.heap.size + 1, 3, none⟩) (by simp) (by simp) (.slice (some ⟨gh, 0, none⟩) m.hd.length m.hd.length)).setCell (p := ⟨w.heap.size + 1, 4, none⟩) (by simp) (by simp) (.slice (some ⟨V3.heap.size, 0, none⟩) m.cs.length m.cs.length)
  have b4 := B4.out
  have b4s := b4.size
  have BF := HM7.out.bl.trans (KK.below (B := w.heap.size) (by omega) (by omega))
  refine ⟨gd, V1.heap.size, gh, V3.heap.size, rfl, ⟨rowK (rowB RD.out b4) KK (.inr (by omega)), ⟨V1, w2, rfl, TT.out, gh', fun q a b => (KK.block q (by omega) (by omega)).trans ((b4.block q (by omega)).trans (ST.out q a b))⟩, rowK (rowB RH.out b4) KK (.inr (by omega)), HC.out.cx.keep (fun q a b => KK.block q b (by omega)), by omega, by omega, by omega, by omega⟩, BF⟩

end Go.Proofs.Ytbdjppiagjhfmaa
