/- The program's lexer: a tag or a reference closed. -/
import Derived.Test.YtgkdplooocbonaaGreatDoorXV9
import Derived.Test.YtgkdplooocbonaaGreatDoorXZj
namespace Go.Proofs.YtgkdplooocbonaaGreatDoor
open Go.RowKit
set_option linter.unusedVariables false
set_option linter.unusedSimpArgs false

theorem Env.up {B B' : Nat} {tp : TypeId} {pv : Value} {w : World} (h : Env B tp pv w) (h1 : B ≤ B') (h2 : B' ≤ w.heap.size) : Env B' tp pv w :=
  ⟨h.refs, h.errs, h.tag, h2, Nat.lt_of_lt_of_le h.b0 h1, Nat.lt_of_lt_of_le h.b1 h1, Nat.lt_of_lt_of_le h.b2 h1, Nat.lt_of_lt_of_le h.b3 h1⟩

theorem strI_snoc (l : List Int) (x : Int) : strI (l ++ [x]) = strI l ++ ⟨#[UInt8.ofNat x.toNat]⟩ := by
  unfold strI
  rw [List.foldl_append]
  apply ByteArray.ext
  simp [ByteArray.push, ByteArray.append_eq, ByteArray.data_append]

theorem below_both {b : Nat} {w v : World} (h : Below b w v) (a : Addr) (x : Value) : Below b (w.setCell a x) (v.setCell a x) :=
  ⟨h.os, h.tape, h.output, by simpa [World.setCell] using h.size, fun k hk => by
    have := h.block k hk
    simp only [World.setCell, Array.getElem?_modify, this]⟩

/-- What closing a mark leaves. -/
def CmP (lo g : Nat) (hs : List Int) (ts : List TK) (w : World) (e : Ending) (w' : World) : Prop :=
  (tagA (strU (hs ++ [62])) = none ∧ e = .returned (.bool false) ∧ LXs lo g w' hs ts ∧ Below lo w w') ∨
  (∃ t, tagA (strU (hs ++ [62])) = some t ∧ e = .returned (.bool true) ∧ LXs lo g w' [] (ts ++ [t]) ∧ Below lo w w')

set_option maxRecDepth 100000 in
set_option maxHeartbeats 3200000 in
theorem closeMark_any (B lo g : Nat) (tp : TypeId) (pv : Value) (w : World) (hs : List Int) (ts : List TK) (h : LXs lo g w hs ts) (hE : Env B tp pv w) (hB : B ≤ lo) (hl : hs.length ≤ 159) (hn : ts.length ≤ 900000) :
    Calls Tryz.prog 37 #[.pointer (some ⟨g, 0, none⟩)] w fun e w' => CmP lo g hs ts w e w' := by
  obtain ⟨hv, tv, us, rs, bl, bh, h⟩ := h
  have lg := h.lg
  obtain ⟨c0, c1, c2⟩ := cellsQ2 h.box
  obtain ⟨p, c, rfl, hb⟩ := own_bat h.held
  have hcv := conv_bytesT c hb
  have z1 := strI_size hs
  have z2 := strI_size (hs ++ [62])
  have e2 : strI (hs ++ [62]) = strI hs ++ ⟨#[62]⟩ := strI_snoc hs 62
  have KR := Hid.mk' (implRT_any (strI hs ++ ⟨#[62]⟩) tp pv w (hE.up (by omega) (Nat.le_refl _)) (by rw [← e2, z2]; simp; omega))
  have EU : Hid ((strI hs ++ ⟨#[62]⟩).data.toList = strU (hs ++ [62])) := Hid.mk' (by unfold strU; rw [e2])
  have ln : ¬ 160 < (strU (hs ++ [62])).length := by
    have : (strU (hs ++ [62])).length = (strI (hs ++ [62])).size := by unfold strU; rw [len_list]
    rw [this, z2]; simp; omega
  have H := Hid.mk' h
  have LN := Hid.mk' ln
  have g9 : ¬ 9223372036854775807 < (strI hs).size + 1 := by rw [z1]; omega
  clear h hb e2 z2 ln
  generalize hS : strI hs = S at *
  go_enter Tryz.func37, Tryz.ntmps37
  go_wp2_with fail
  refine KR.out.mono ?_
  rintro e w1 ⟨v, us1, rfl, hoa, hb1⟩
  rw [EU.out] at hoa ⊢
  cases ht : tagA (strU (hs ++ [62])) with
  | none =>
    have e1 : rtC (strU (hs ++ [62])) = 5 := by unfold rtC; rw [if_neg LN.out, ht]
    have e2 : rtT (strU (hs ++ [62])) = ⟨0, 0, ⟨#[]⟩, [], false⟩ := by unfold rtT; rw [if_neg LN.out, ht]
    rw [e1, e2]
    rw [e2] at hoa
    obtain ⟨av, cv, rfl, _⟩ := hoa.at
    have B1 := Hid.mk' (hb1.trans ((below_new w1 (.cells #[.int .i64 5, .int .i64 0, .int .i64 0, .string ⟨#[]⟩, .slice av 0 cv, .bool false] 73)).mono hb1.size))
    clear hoa KR e1 e2 hb1
    have HT := Hid.mk' ht
    clear ht
    go_wp2
    go_ret
    exact .inl ⟨HT.out, rfl, ⟨_, _, _, _, _, _, H.out.below B1.out⟩, B1.out.mono (by omega)⟩
  | some t =>
    have e1 : rtC (strU (hs ++ [62])) = 0 := by unfold rtC; rw [if_neg LN.out, ht]
    have e2 : rtT (strU (hs ++ [62])) = t := by unfold rtT; rw [if_neg LN.out, ht]
    rw [e1, e2]
    rw [e2] at hoa
    obtain ⟨av, cv, rfl, _⟩ := hoa.at
    have HT := Hid.mk' ht
    have N1 := below_new w1 (.cells #[.int .i64 0, .int .i64 t.kd, .int .i64 t.by_, .string t.nm, .slice av t.at_.length cv, .bool t.sh] 73)
    have B1 := hb1.trans (N1.mono hb1.size)
    have R6 := row6 w1 73 (.int .i64 0) (.int .i64 t.kd) (.int .i64 t.by_) (.string t.nm) (.slice av t.at_.length cv) (.bool t.sh)
    have O1 := Hid.mk' (hoa.below N1)
    have OH := Hid.mk' hoa
    have L1 := (H.out.below B1)
    obtain ⟨d0, d1, d2⟩ := cellsQ2 L1.box
    obtain ⟨f0, f1⟩ := frzQ2 L1.box
    have HB := Hid.mk' B1
    have HL := Hid.mk' L1
    have S1 : w1.heap.size < (w1.alloc (.cells #[.int .i64 0, .int .i64 t.kd, .int .i64 t.by_, .string t.nm, .slice av t.at_.length cv, .bool t.sh] 73)).heap.size := by simp
    have SB := hb1.size
    obtain ⟨x0, x1, x2, x3, x4, x5, x6⟩ := cells6 R6
    clear hoa KR e1 e2 hb1 ht N1 B1 R6 L1
    generalize hV : w1.alloc (.cells #[.int .i64 0, .int .i64 t.kd, .int .i64 t.by_, .string t.nm, .slice av t.at_.length cv, .bool t.sh] 73) = V at *
    go_wp2_with fail
    clear hV
    have B3 : Below w.heap.size (w.setCell ⟨g, 0, none⟩ (.slice none 0 0)) ((V.setCell ⟨g, 0, none⟩ (.slice none 0 0)).alloc (.cells #[.int .i64 t.kd, .int .i64 t.by_, .string t.nm, .slice av t.at_.length cv, .bool t.sh] 33)) :=
      (below_both HB.out ⟨g, 0, none⟩ (.slice none 0 0)).alloc (by have := HB.out.size; simpa [World.setCell] using this) _
    have OK : OA w.heap.size ((V.setCell ⟨g, 0, none⟩ (.slice none 0 0)).alloc (.cells #[.int .i64 t.kd, .int .i64 t.by_, .string t.nm, .slice av t.at_.length cv, .bool t.sh] 33)) (.slice av t.at_.length cv) t.at_ us1 :=
      O1.out.keep (Nat.le_refl _) (fun k h1 h2 => by
        rw [(below_new _ _).block k (by simpa [World.setCell] using h2)]
        exact Deep.blk_setCell_other _ _ _ _ (by show k ≠ g; omega))
    have SZ3 := B3.size
    have T3 : TA w.heap.size ((V.setCell ⟨g, 0, none⟩ (.slice none 0 0)).alloc (.cells #[.int .i64 t.kd, .int .i64 t.by_, .string t.nm, .slice av t.at_.length cv, .bool t.sh] 33)).heap.size ((V.setCell ⟨g, 0, none⟩ (.slice none 0 0)).alloc (.cells #[.int .i64 t.kd, .int .i64 t.by_, .string t.nm, .slice av t.at_.length cv, .bool t.sh] 33)) [t] [.slice av t.at_.length cv] _ _ _ :=
      TA.one_tag OK (by simpa [World.setCell] using SZ3) (fun k e => (OK.row.lt k e).2) (fun i hi k e => (OK.val i hi).lt k e)
    have NC := new_cells' (V.setCell ⟨g, 0, none⟩ (.slice none 0 0)) 33 [.int .i64 t.kd, .int .i64 t.by_, .string t.nm, .slice av t.at_.length cv, .bool t.sh] V.heap.size (by simp [World.setCell])
    have hws : (w.setCell ⟨g, 0, none⟩ (.slice none 0 0)).heap.size = w.heap.size := by simp [World.setCell]
    have KL := Hid.mk' (tell_any lo g (some ⟨V.heap.size, 0, none⟩) 1 (w.setCell ⟨g, 0, none⟩ (.slice none 0 0)) _ _ _ _ _ _ _ _ _ [t] [.slice av t.at_.length cv] _ _ _ H.out.drop (by rw [hws]; exact B3) (by rw [hws]; exact T3) (.inr ⟨_, rfl, NC⟩) (by simp; omega))
    have BG : Hid (Below lo w ((V.setCell ⟨g, 0, none⟩ (.slice none 0 0)).alloc (.cells #[.int .i64 t.kd, .int .i64 t.by_, .string t.nm, .slice av t.at_.length cv, .bool t.sh] 33))) := Hid.mk' (((HB.out.mono (show lo ≤ w.heap.size by omega)).setCell (p := ⟨g, 0, none⟩) lg _).alloc (by have := HB.out.size; simp [World.setCell]; omega) _)
    clear B3 OK T3 NC O1 OH HL d0 d1 d2 f0 f1 x0 x1 x2 x3 x4 x5 x6
    refine KL.out.mono ?_
    rintro e w2 ⟨⟨v, rfl⟩, hx, hb2⟩
    have HX := Hid.mk' hx
    have B2 := Hid.mk' (BG.out.trans hb2)
    clear hx hb2 KL
    go_wp2
    go_ret
    exact .inr ⟨t, HT.out, rfl, HX.out, B2.out⟩

end Go.Proofs.YtgkdplooocbonaaGreatDoor
