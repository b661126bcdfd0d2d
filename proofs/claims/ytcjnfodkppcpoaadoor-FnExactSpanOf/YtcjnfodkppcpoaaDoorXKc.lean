/- The program's writeStart. -/
import Derived.Test.YtcjnfodkppcpoaaDoorXKb
namespace Go.Proofs.YtcjnfodkppcpoaaDoor
open Go.RowKit
set_option linter.unusedVariables false
set_option linter.unusedSimpArgs false

set_option maxRecDepth 100000 in
theorem len_any (B b : Nat) (bs : List Value) (w : World) (h : Lib.IsBuilder 117 5 B b bs w) :
    Calls Tryd.prog 89 #[.pointer (some ⟨b, 0, none⟩)] w fun e w' => e = .returned (.int .i64 bs.length) ∧ w' = w := by
  obtain ⟨a, n, cap, hn, h1⟩ : ∃ a n cap, n = bs.length ∧ w.cell? ⟨b, 1, none⟩ = some (.slice a n cap) := by
    have key : ∀ p, Lib.BuilderAt 117 5 B b p bs w → ∃ a n cap, n = bs.length ∧ w.cell? ⟨b, 1, none⟩ = some (.slice a n cap) := by
      rintro p ⟨hB, v, hbk, hown, hne⟩
      have c1 : w.cell? ⟨b, 1, none⟩ = some v := by rw [Lib.cell_of_heap hbk]; rfl
      rcases hown.2 with ⟨rfl, hz⟩ | ⟨g, cap, cur, rfl, _⟩
      · exact ⟨none, 0, 0, hz.symm, c1⟩
      · exact ⟨_, _, _, rfl, c1⟩
    rcases h with h | h
    · exact key _ h
    · exact key _ h
  subst hn
  go_enter Tryd.func89, Tryd.ntmps89
  go_wp2
  go_ret
  exact ⟨rfl, rfl⟩

/-- What is written when k attributes are. -/
def pl (t : TK) (k : Nat) : List UInt8 := [60] ++ (t.nm.data.toList ++ attrsT (t.at_.take k))
theorem pl_len (t : TK) (k : Nat) : (pl t k).length = 1 + t.nm.size + (attrsT (t.at_.take k)).length := by
  have e : t.nm.data.toList.length = t.nm.size := Array.length_toList
  simp only [pl, List.length_append, e, List.length_cons, List.length_nil]; omega
theorem pl_succ (t : TK) (k : Nat) (h : k < t.at_.length) : pl t (k + 1) = pl t k ++ attrT (atK t.at_ k) := by
  unfold pl; rw [attrsT_take _ _ h]; simp
theorem pl_big {t : TK} {k : Nat} (h : 160 < (pl t k).length) : 160 < (openT t.nm t.at_ t.sh).length := by
  have h1 := attrsT_le t.at_ k
  have h2 := openT_len t.nm t.at_ t.sh
  rw [pl_len] at h
  omega
theorem attr_text (nm : ByteArray) (q : List UInt8) : (((⟨#[32]⟩ : ByteArray) ++ nm) ++ ⟨#[61, 34]⟩) ++ ⟨q.toArray⟩ ++ ⟨#[34]⟩ = ⟨([32] ++ (nm.data.toList ++ ([61, 34] ++ (q ++ [34])))).toArray⟩ := by
  have e1 : (⟨#[32]⟩ : ByteArray) = ⟨[(32 : UInt8)].toArray⟩ := rfl
  have e2 : (⟨#[61, 34]⟩ : ByteArray) = ⟨[(61 : UInt8), 34].toArray⟩ := rfl
  have e3 : (⟨#[34]⟩ : ByteArray) = ⟨[(34 : UInt8)].toArray⟩ := rfl
  rw [e1, e2, e3, cat_ba, cat_list, cat_list, cat_list]
  simp
theorem strCells_list (q : List UInt8) : Lib.strCells ⟨q.toArray⟩ = Lib.byteCells q := by rw [Lib.strCells_eq]

set_option maxRecDepth 100000 in
set_option maxHeartbeats 6400000 in
theorem writeStart_any (t : TK) (a : Option Addr) (c : Nat) (w : World) (hr : Refs w) (ha : AAt w a t.at_) (hB : VB t.at_) (hn : (t.nm.size : Int) ≤ 1048576) (hl : (t.at_.length : Int) + asz t.at_ ≤ 1048576) :
    Calls Tryd.prog 79 #[.agg #[.int .i64 t.kd, .int .i64 t.by_, .string t.nm, .slice a t.at_.length c, .bool t.sh]] w fun e w' => e = .returned (.agg #[.int .i64 (wsCode t), .string (wsText t)]) ∧ Below w.heap.size w w' := by
  have N0 := below_new w (.cells #[.int .i64 t.kd, .int .i64 t.by_, .string t.nm, .slice a t.at_.length c, .bool t.sh] 105)
  have N1 := N0.alloc (by simp) (.cells #[.int .i64 0, .string ⟨#[]⟩] 85)
  have N2 := N1.alloc (by simp; omega) (.cells #[.pointer none, .slice none 0 0] 117)
  have HP := Hid.mk' (((row5 w 105 (.int .i64 t.kd) (.int .i64 t.by_) (.string t.nm) (.slice a t.at_.length c) (.bool t.sh)).alloc (.cells #[.int .i64 0, .string ⟨#[]⟩] 85)).alloc (.cells #[.pointer none, .slice none 0 0] 117))
  have HR := (rowR (w.alloc (.cells #[.int .i64 t.kd, .int .i64 t.by_, .string t.nm, .slice a t.at_.length c, .bool t.sh] 105)) 85 (.int .i64 0) (.string ⟨#[]⟩)).alloc (.cells #[.pointer none, .slice none 0 0] 117)
  rw [show (w.alloc (.cells #[.int .i64 t.kd, .int .i64 t.by_, .string t.nm, .slice a t.at_.length c, .bool t.sh] 105)).heap.size = w.heap.size + 1 from by simp] at HR
  have HR := Hid.mk' HR
  have NB := built_new ((w.alloc (.cells #[.int .i64 t.kd, .int .i64 t.by_, .string t.nm, .slice a t.at_.length c, .bool t.sh] 105)).alloc (.cells #[.int .i64 0, .string ⟨#[]⟩] 85))
  rw [show ((w.alloc (.cells #[.int .i64 t.kd, .int .i64 t.by_, .string t.nm, .slice a t.at_.length c, .bool t.sh] 105)).alloc (.cells #[.int .i64 0, .string ⟨#[]⟩] 85)).heap.size = w.heap.size + 1 + 1 from by simp] at NB
  have SZ : (((w.alloc (.cells #[.int .i64 t.kd, .int .i64 t.by_, .string t.nm, .slice a t.at_.length c, .bool t.sh] 105)).alloc (.cells #[.int .i64 0, .string ⟨#[]⟩] 85)).alloc (.cells #[.pointer none, .slice none 0 0] 117)).heap.size = w.heap.size + 1 + 1 + 1 := by simp
  have HF := Hid.mk' (hr.below N2)
  have HA := Hid.mk' (ha.below N2)
  have HB := Hid.mk' N2
  have IB := Hid.mk' NB
  have HV := Hid.mk' hB
  have HA0 := Hid.mk' ha
  have HF0 := Hid.mk' hr
  clear ha N0 N1 N2 NB hB hr
  have f0 : ¬ (9223372036854775807 < 1 + t.nm.size) := by omega
  have E0 : Hid (Lib.strCells (⟨#[60]⟩ ++ t.nm) = Lib.byteCells (pl t 0)) := Hid.mk' (by
    rw [show (⟨#[60]⟩ : ByteArray) = ⟨[(60 : UInt8)].toArray⟩ from rfl, cat_ba, strCells_list]
    simp [pl, attrsT])
  have z0 : (⟨#[60]⟩ ++ t.nm : ByteArray).size = 1 + t.nm.size := by rw [ByteArray.size_append]; rfl
  obtain ⟨c0, c1, c2, c3, c4, c5⟩ := cells5 HP.out
  go_enter Tryd.func79, Tryd.ntmps79
  go_wp2_with fail
  generalize ((w.alloc (.cells #[.int .i64 t.kd, .int .i64 t.by_, .string t.nm, .slice a t.at_.length c, .bool t.sh] 105)).alloc (.cells #[.int .i64 0, .string ⟨#[]⟩] 85)).alloc (.cells #[.pointer none, .slice none 0 0] 117) = W at *
  refine (write_any _ _ [] _ _ IB.out ?_ (by omega)).mono ?_
  · rw [z0]; show 0 + _ ≤ _; omega
  rintro e w1 ⟨rfl, hba, hb1⟩
  have IB : Hid (Lib.IsBuilder 117 5 (w.heap.size + 1 + 1) (w.heap.size + 1 + 1) (Lib.byteCells (pl t 0)) w1) := Hid.mk' (by rw [← E0.out]; exact .inr (by simpa using hba))
  have BW := Hid.mk' hb1
  clear hba E0 f0 z0 c0 c1 c2 c3 c4 c5
  have C3 : Hid (∀ wr, Below (w.heap.size + 1 + 1) W wr → wr.rowIs w.heap.size 105 5 (r5 (.int .i64 t.kd) (.int .i64 t.by_) (.string t.nm) (.slice a t.at_.length c) (.bool t.sh)) ∧ wr.rowIs (w.heap.size + 1) 85 2 (fun i => if i = 0 then .int .i64 0 else .string ⟨#[]⟩) ∧ AAt wr a t.at_ ∧ Refs wr ∧ Below w.heap.size w wr) := Hid.mk' (fun wr hb =>
    ⟨HP.out.of_block (hb.block _ (by omega)), HR.out.of_block (hb.block _ (by omega)), HA0.out.below (HB.out.trans (hb.mono (by omega))), HF0.out.below (HB.out.trans (hb.mono (by omega))), HB.out.trans (hb.mono (by omega))⟩)
  clear HP HR HA HF HB HA0 HF0
  have PB : Hid (∀ k, k ≤ t.at_.length → (pl t k).length ≤ 20000000) := Hid.mk' (fun k hk => by
    have h1 := attrsT_bd t.at_
    have h2 := attrsT_le t.at_ k
    rw [pl_len]; omega)
  obtain ⟨P1, P2, P3, P4, P5⟩ := C3.out w1 BW.out
  obtain ⟨c0, c1, c2, c3, c4, c5⟩ := cells5 P1
  clear P1 P2 P3 P4 P5 hb1
  have s1 := BW.out.size
  go_wp2
  clear c0 c1 c2 c3 c4 c5
  go_loopw [14] (fun i wr => ∃ k : Nat, k ≤ t.at_.length ∧ i = .int .i64 k ∧ Lib.IsBuilder 117 5 (w.heap.size + 1 + 1) (w.heap.size + 1 + 1) (Lib.byteCells (pl t k)) wr ∧ Below (w.heap.size + 1 + 1) W wr) (fun i _ => t.at_.length - (intOf i).toNat)
  case atStart => exact ⟨0, Nat.zero_le _, rfl, IB.out, BW.out⟩
  case round =>
    obtain ⟨k, hk, rfl, hib, hbl⟩ := hrel
    clear IB BW s1
    have BL := Hid.mk' hbl
    have IB := Hid.mk' hib
    have s1 := hbl.size
    obtain ⟨P1, P2, P3, P4, P5⟩ := C3.out wr hbl
    have HF := Hid.mk' P4
    have pbk := PB.out k hk
    clear hib hbl P4 P5
    by_cases hlt : k < t.at_.length
    · have ci : (k : Int) < (t.at_.length : Int) := by omega
      rcases P3 with ha | ⟨b1, o1, rfl, s2, hc1⟩
      · exact absurd hlt (by rw [ha]; exact Nat.not_lt_zero _)
      obtain ⟨x1, p1, d5, x2, x3⟩ := hc1 k hlt
      have VK := Hid.mk' (HV.out k hlt)
      have NK := asz_k t.at_ k hlt
      have N4 := below_new wr (.cells #[.string (atK t.at_ k).nm, .slice p1 (atK t.at_ k).vl.length d5] 94)
      have HF := Hid.mk' (HF.out.below N4)
      have X3 := Hid.mk' (x3.below N4)
      have IB := Hid.mk' (built_keep IB.out N4)
      have BL := Hid.mk' (BL.out.trans (N4.mono (by omega)))
      have AR := Hid.mk' (rowR wr 94 (.string (atK t.at_ k).nm) (.slice p1 (atK t.at_ k).vl.length d5))
      clear hc1 x3 N4 P1 P2
      have KE := Hid.mk' (implET_any p1 d5 (atK t.at_ k).vl _ HF.out X3.out VK.out (by omega))
      by_cases hv : 240 < (atK t.at_ k).vl.length
      · have e1 : etCode (atK t.at_ k).vl = 6 := by unfold etCode; rw [if_pos (by omega)]
        have e2 : etText (atK t.at_ k).vl = ⟨#[]⟩ := by unfold etText; rw [if_pos (by omega)]
        rw [e1, e2] at KE
        have E1 : Hid (wsCode t = 6) := Hid.mk' (by unfold wsCode; rw [if_pos (openT_big hlt (by omega))])
        have E2 : Hid (wsText t = ⟨#[]⟩) := Hid.mk' (by unfold wsText; rw [if_pos (openT_big hlt (by omega))])
        clear e1 e2
        go_wp2_with fail
        refine KE.out.mono ?_
        rintro e w2 ⟨rfl, hb2⟩
        have BL := Hid.mk' (BL.out.trans (hb2.mono (by simp; omega)))
        obtain ⟨P1, P2, P3, P4, P5⟩ := C3.out w2 BL.out
        have HB := Hid.mk' P5
        obtain ⟨d0, d1, d2, d3, d4⟩ := cellsR P2
        have s3 := P5.size
        clear P1 P2 P3 P4 P5 KE hb2 IB AR X3 HF VK
        go_wp2
        exact bodyPost_ret (v := .agg #[.int .i64 6, .string ⟨#[]⟩]) (by simp [results, Tryd.results79, go_sem, *]) rfl ⟨by rw [E1.out, E2.out], ((HB.out.setCell (p := ⟨w.heap.size + 1, 0, none⟩) (by simp) _).setCell (p := ⟨w.heap.size + 1, 1, none⟩) (by simp) _).alloc (by simpa using s3) _⟩
      have e1 : etCode (atK t.at_ k).vl = 0 := by unfold etCode; rw [if_neg (by omega)]
      have e2 : etText (atK t.at_ k).vl = ⟨(escAll (atK t.at_ k).vl).toArray⟩ := by unfold etText; rw [if_neg (by omega)]
      rw [e1, e2] at KE
      clear e1 e2
      have EL := escAll_len (atK t.at_ k).vl
      have PS : Hid (pl t (k + 1) = pl t k ++ attrT (atK t.at_ k)) := Hid.mk' (pl_succ t k hlt)
      have AT2 := Hid.mk' (attr_text (atK t.at_ k).nm (escAll (atK t.at_ k).vl))
      have q2 : (⟨(escAll (atK t.at_ k).vl).toArray⟩ : ByteArray).size ≤ 1440 := by rw [ba_size]; omega
      generalize hq : (⟨(escAll (atK t.at_ k).vl).toArray⟩ : ByteArray) = esc at *
      have HQ := Hid.mk' hq
      clear hq
      go_wp2_with fail
      refine KE.out.mono ?_
      rintro e w2 ⟨rfl, hb2⟩
      have N5 := below_new w2 (.cells #[.int .i64 0, .string esc] 85)
      have M5 := hb2.trans (N5.mono hb2.size)
      have BL := Hid.mk' (BL.out.trans (M5.mono (by simp; omega)))
      have IB := Hid.mk' (built_keep IB.out M5)
      have AR := Hid.mk' (rowB AR.out M5)
      have TR := Hid.mk' (rowR w2 85 (.int .i64 0) (.string esc))
      have s4 : w.heap.size + 1 + 1 ≤ w2.heap.size := by have := hb2.size; simp at this; omega
      clear KE hb2 N5 M5 X3 HF VK
      obtain ⟨t0, t1, t2, t3, t4⟩ := cellsR TR.out
      obtain ⟨a0, a1, a2, a3, a4⟩ := cellsR AR.out
      have KL := Hid.mk' (len_any _ _ _ _ IB.out)
      rw [Lib.byteCells_length] at KL
      by_cases hp : 160 < (pl t k).length
      · have E1 : Hid (wsCode t = 6) := Hid.mk' (by unfold wsCode; rw [if_pos (pl_big hp)])
        have E2 : Hid (wsText t = ⟨#[]⟩) := Hid.mk' (by unfold wsText; rw [if_pos (pl_big hp)])
        have g : (160 : Int) < ((pl t k).length : Int) := by omega
        go_wp2_with fail
        generalize w2.alloc (.cells #[.int .i64 0, .string esc] 85) = W2 at *
        refine KL.out.mono ?_
        rintro e w3 ⟨rfl, rfl⟩
        obtain ⟨P1, P2, P3, P4, P5⟩ := C3.out _ BL.out
        have HB := Hid.mk' P5
        obtain ⟨d0, d1, d2, d3, d4⟩ := cellsR P2
        clear P1 P2 P3 P4 P5
        go_wp2
        exact bodyPost_ret (v := .agg #[.int .i64 6, .string ⟨#[]⟩]) (by simp [results, Tryd.results79, go_sem, *]) rfl ⟨by rw [E1.out, E2.out], ((HB.out).setCell (p := ⟨w.heap.size + 1, 0, none⟩) (by simp) _).setCell (p := ⟨w.heap.size + 1, 1, none⟩) (by simp) _⟩
      · have g : ¬ (160 : Int) < ((pl t k).length : Int) := by omega
        have u1 : (⟨#[32]⟩ : ByteArray).size = 1 := rfl
        have u2 : (⟨#[61, 34]⟩ : ByteArray).size = 2 := rfl
        have u3 : (⟨#[34]⟩ : ByteArray).size = 1 := rfl
        have f1 : ¬ (9223372036854775807 < 1 + (atK t.at_ k).nm.size) := by omega
        have f2 : ¬ (9223372036854775807 < 1 + (atK t.at_ k).nm.size + 2) := by omega
        have f3 : ¬ (9223372036854775807 < 1 + (atK t.at_ k).nm.size + 2 + esc.size) := by omega
        have f4 : ¬ (9223372036854775807 < 1 + (atK t.at_ k).nm.size + 2 + esc.size + 1) := by omega
        go_wp2_with fail
        generalize w2.alloc (.cells #[.int .i64 0, .string esc] 85) = W2 at *
        refine KL.out.mono ?_
        rintro e w3 ⟨rfl, rfl⟩
        have s5 := BL.out.size
        go_wp2_with fail
        refine (write_any _ _ _ _ _ IB.out ?_ (by omega)).mono ?_
        · rw [Lib.byteCells_length]; simp only [ByteArray.size_append, u1, u2, u3]; omega
        rintro e w4 ⟨rfl, hba, hb4⟩
        have IB2 : Hid (Lib.IsBuilder 117 5 (w.heap.size + 1 + 1) (w.heap.size + 1 + 1) (Lib.byteCells (pl t (k + 1))) w4) := Hid.mk' (by
          rw [PS.out, Lib.byteCells_append, show attrT (atK t.at_ k) = [32] ++ ((atK t.at_ k).nm.data.toList ++ ([61, 34] ++ (escAll (atK t.at_ k).vl ++ [34]))) from rfl, ← strCells_list ([32] ++ _), ← AT2.out]
          exact .inr hba)
        have BL := Hid.mk' (BL.out.trans hb4)
        clear hba hb4 IB KL t0 t1 t2 t3 t4 a0 a1 a2 a3 a4 AR TR
        go_wp2
        exact ⟨⟨k + 1, by omega, by simp, IB2.out, BL.out⟩, by simp [intOf]; omega⟩
    · have ci : ¬ (k : Int) < (t.at_.length : Int) := by omega
      have e : k = t.at_.length := by omega
      subst e
      obtain ⟨c0, c1, c2, c3, c4, c5⟩ := cells5 P1
      have OPn : Hid (openT t.nm t.at_ t.sh = pl t t.at_.length ++ ((if t.sh then [47] else []) ++ [62])) := Hid.mk' (by unfold openT pl; rw [List.take_length]; simp)
      have v1 : (⟨#[47]⟩ : ByteArray).size = 1 := rfl
      have v2 : (⟨#[62]⟩ : ByteArray).size = 1 := rfl
      have KEY : Hid (∀ w4, Lib.IsBuilder 117 5 (w.heap.size + 1 + 1) (w.heap.size + 1 + 1) (Lib.byteCells (pl t t.at_.length ++ (if t.sh then [47] else []))) w4 → Below (w.heap.size + 1 + 1) W w4 → w.heap.size + 1 + 1 ≤ w4.heap.size ∧ Calls Tryd.prog 80 #[.pointer (some ⟨w.heap.size + 1 + 1, 0, none⟩), .string ⟨#[62]⟩] w4 fun e w' => e = .returned (.tuple #[.int .i64 1, .nilIface]) ∧ Lib.IsBuilder 117 5 (w.heap.size + 1 + 1) (w.heap.size + 1 + 1) (Lib.byteCells (openT t.nm t.at_ t.sh)) w' ∧ Below (w.heap.size + 1 + 1) W w') := Hid.mk' (fun w4 hib hbl => by
        have sz := hbl.size
        refine ⟨by omega, (write_any _ _ _ _ _ hib ?_ (by omega)).mono ?_⟩
        · rw [Lib.byteCells_length, v2]
          have : (if t.sh = true then [(47 : UInt8)] else []).length ≤ 1 := by split <;> simp
          rw [List.length_append]; omega
        rintro e w5 ⟨rfl, hba, hb5⟩
        refine ⟨rfl, ?_, hbl.trans hb5⟩
        rw [OPn.out, ← List.append_assoc, Lib.byteCells_append, ← strCells_list [62]]
        exact .inr hba)
      have FIN : Hid (∀ w5, Lib.IsBuilder 117 5 (w.heap.size + 1 + 1) (w.heap.size + 1 + 1) (Lib.byteCells (openT t.nm t.at_ t.sh)) w5 → Calls Tryd.prog 89 #[.pointer (some ⟨w.heap.size + 1 + 1, 0, none⟩)] w5 fun e w' => e = .returned (.int .i64 (openT t.nm t.at_ t.sh).length) ∧ w' = w5) := Hid.mk' (fun w5 hib => by
        have := len_any _ _ _ _ hib
        rw [Lib.byteCells_length] at this
        exact this)
      have W1 : Hid (wsCode t = if 160 < (openT t.nm t.at_ t.sh).length then 6 else 0) := Hid.mk' rfl
      have W2 : Hid (wsText t = if 160 < (openT t.nm t.at_ t.sh).length then ⟨#[]⟩ else ⟨(openT t.nm t.at_ t.sh).toArray⟩) := Hid.mk' rfl
      clear P1 P2 P3 HF
      by_cases hsh : t.sh = true
      · rw [hsh] at c4
        have HSH := Hid.mk' hsh
        clear hsh
        go_wp2_with fail
        refine (write_any _ _ _ _ _ IB.out ?_ (by omega)).mono ?_
        · rw [Lib.byteCells_length, v1]; omega
        rintro e w4 ⟨rfl, hba, hb4⟩
        have IB4 : Hid (Lib.IsBuilder 117 5 (w.heap.size + 1 + 1) (w.heap.size + 1 + 1) (Lib.byteCells (pl t t.at_.length ++ (if t.sh then [47] else []))) w4) := Hid.mk' (by
          rw [if_pos HSH.out, Lib.byteCells_append, ← strCells_list [47]]
          exact .inr hba)
        have BL4 := Hid.mk' (BL.out.trans hb4)
        clear hba hb4 IB BL
        obtain ⟨s6, KW⟩ := KEY.out w4 IB4.out BL4.out
        have KW := Hid.mk' KW
        go_wp2_with fail
        refine KW.out.mono ?_
        rintro e w5 ⟨rfl, hib, hbl⟩
        have IB := Hid.mk' hib
        have BL := Hid.mk' hbl
        obtain ⟨P1, P2, P3, P4, P5⟩ := C3.out w5 hbl
        have HB := Hid.mk' P5
        obtain ⟨d0, d1, d2, d3, d4⟩ := cellsR P2
        have KL := Hid.mk' (FIN.out w5 hib)
        have s7 := hbl.size
        clear P1 P2 P3 P4 P5 hib hbl KW IB4 BL4 KEY FIN
        by_cases hbig : 160 < (openT t.nm t.at_ t.sh).length
        · have E1 : Hid (wsCode t = 6) := Hid.mk' (by rw [W1.out, if_pos hbig])
          have E2 : Hid (wsText t = ⟨#[]⟩) := Hid.mk' (by rw [W2.out, if_pos hbig])
          have g : (160 : Int) < ((openT t.nm t.at_ t.sh).length : Int) := by omega
          go_wp2_with fail
          refine KL.out.mono ?_
          rintro e w6 ⟨rfl, rfl⟩
          go_wp2
          exact bodyPost_ret (v := .agg #[.int .i64 6, .string ⟨#[]⟩]) (by simp [results, Tryd.results79, go_sem, *]) rfl ⟨by rw [E1.out, E2.out], ((HB.out).setCell (p := ⟨w.heap.size + 1, 0, none⟩) (by simp) _).setCell (p := ⟨w.heap.size + 1, 1, none⟩) (by simp) _⟩
        · have E1 : Hid (wsCode t = 0) := Hid.mk' (by rw [W1.out, if_neg hbig])
          have E2 : Hid (wsText t = ⟨(openT t.nm t.at_ t.sh).toArray⟩) := Hid.mk' (by rw [W2.out, if_neg hbig])
          have g : ¬ (160 : Int) < ((openT t.nm t.at_ t.sh).length : Int) := by omega
          go_wp2_with fail
          refine KL.out.mono ?_
          rintro e w6 ⟨rfl, rfl⟩
          go_wp2_with fail
          refine (Tryd.Builder_String_any _ _ _ _ IB.out (by omega)).mono ?_
          rintro e w7 ⟨rfl, hb7⟩
          have L7 := BL.out.trans hb7
          obtain ⟨P1, P2, P3, P4, P5⟩ := C3.out w7 L7
          have HB := Hid.mk' P5
          clear d0 d1 d2 d3 d4
          obtain ⟨d0, d1, d2, d3, d4⟩ := cellsR P2
          clear P1 P2 P3 P4 P5 hb7 L7
          go_wp2
          exact bodyPost_ret (v := .agg #[.int .i64 0, .string ⟨(openT t.nm t.at_ t.sh).toArray⟩]) (by simp [results, Tryd.results79, go_sem, *]) rfl ⟨by rw [E1.out, E2.out], ((HB.out).setCell (p := ⟨w.heap.size + 1, 0, none⟩) (by simp) _).setCell (p := ⟨w.heap.size + 1, 1, none⟩) (by simp) _⟩
      · rw [Bool.not_eq_true] at hsh
        rw [hsh] at c4
        have IB4 : Hid (Lib.IsBuilder 117 5 (w.heap.size + 1 + 1) (w.heap.size + 1 + 1) (Lib.byteCells (pl t t.at_.length ++ (if t.sh then [47] else []))) wr) := Hid.mk' (by
          rw [hsh]; simpa using IB.out)
        clear hsh
        obtain ⟨s6, KW⟩ := KEY.out wr IB4.out BL.out
        have KW := Hid.mk' KW
        clear IB BL
        go_wp2_with fail
        refine KW.out.mono ?_
        rintro e w5 ⟨rfl, hib, hbl⟩
        have IB := Hid.mk' hib
        have BL := Hid.mk' hbl
        obtain ⟨P1, P2, P3, P4, P5⟩ := C3.out w5 hbl
        have HB := Hid.mk' P5
        obtain ⟨d0, d1, d2, d3, d4⟩ := cellsR P2
        have KL := Hid.mk' (FIN.out w5 hib)
        have s7 := hbl.size
        clear P1 P2 P3 P4 P5 hib hbl KW IB4 KEY FIN
        by_cases hbig : 160 < (openT t.nm t.at_ t.sh).length
        · have E1 : Hid (wsCode t = 6) := Hid.mk' (by rw [W1.out, if_pos hbig])
          have E2 : Hid (wsText t = ⟨#[]⟩) := Hid.mk' (by rw [W2.out, if_pos hbig])
          have g : (160 : Int) < ((openT t.nm t.at_ t.sh).length : Int) := by omega
          go_wp2_with fail
          refine KL.out.mono ?_
          rintro e w6 ⟨rfl, rfl⟩
          go_wp2
          exact bodyPost_ret (v := .agg #[.int .i64 6, .string ⟨#[]⟩]) (by simp [results, Tryd.results79, go_sem, *]) rfl ⟨by rw [E1.out, E2.out], ((HB.out).setCell (p := ⟨w.heap.size + 1, 0, none⟩) (by simp) _).setCell (p := ⟨w.heap.size + 1, 1, none⟩) (by simp) _⟩
        · have E1 : Hid (wsCode t = 0) := Hid.mk' (by rw [W1.out, if_neg hbig])
          have E2 : Hid (wsText t = ⟨(openT t.nm t.at_ t.sh).toArray⟩) := Hid.mk' (by rw [W2.out, if_neg hbig])
          have g : ¬ (160 : Int) < ((openT t.nm t.at_ t.sh).length : Int) := by omega
          go_wp2_with fail
          refine KL.out.mono ?_
          rintro e w6 ⟨rfl, rfl⟩
          go_wp2_with fail
          refine (Tryd.Builder_String_any _ _ _ _ IB.out (by omega)).mono ?_
          rintro e w7 ⟨rfl, hb7⟩
          have L7 := BL.out.trans hb7
          obtain ⟨P1, P2, P3, P4, P5⟩ := C3.out w7 L7
          have HB := Hid.mk' P5
          clear d0 d1 d2 d3 d4
          obtain ⟨d0, d1, d2, d3, d4⟩ := cellsR P2
          clear P1 P2 P3 P4 P5 hb7 L7
          go_wp2
          exact bodyPost_ret (v := .agg #[.int .i64 0, .string ⟨(openT t.nm t.at_ t.sh).toArray⟩]) (by simp [results, Tryd.results79, go_sem, *]) rfl ⟨by rw [E1.out, E2.out], ((HB.out).setCell (p := ⟨w.heap.size + 1, 0, none⟩) (by simp) _).setCell (p := ⟨w.heap.size + 1, 1, none⟩) (by simp) _⟩

end Go.Proofs.YtcjnfodkppcpoaaDoor
