/- ReadTag, both sides. -/
import Derived.Test.YtlimgcmhidooaaaGreatDoorM16
import Derived.Test.YtlimgcmhidooaaaGreatDoorM18
import Derived.Recover
import Derived.Test.YtlimgcmhidooaaaGreatDoorM17
import Derived.Test.YtlimgcmhidooaaaGreatDoorM13
set_option maxHeartbeats 3200000
set_option maxRecDepth 100000
set_option linter.unusedVariables false
set_option linter.unusedSimpArgs false
namespace Go.Proofs.YtlimgcmhidooaaaGreatDoor
open Go.RowKit
theorem six_other (w : World) (g k : Nat) (c x y z u v : Value) (h : k ≠ g) : ((((((w.setCell ⟨g, 0, none⟩ c).setCell ⟨g, 1, none⟩ x).setCell ⟨g, 2, none⟩ y).setCell ⟨g, 3, none⟩ z).setCell ⟨g, 4, none⟩ u).setCell ⟨g, 5, none⟩ v).heap[k]? = w.heap[k]? := by
 rw [Deep.blk_setCell_other _ _ _ _ h, Deep.blk_setCell_other _ _ _ _ h, Deep.blk_setCell_other _ _ _ _ h, Deep.blk_setCell_other _ _ _ _ h, Deep.blk_setCell_other _ _ _ _ h, Deep.blk_setCell_other _ _ _ _ h]
theorem six_below {B : Nat} {w w' : World} (h : Below B w w') (g : Nat) (c x y z u v : Value) (hg : B ≤ g) : Below B w ((((((w'.setCell ⟨g, 0, none⟩ c).setCell ⟨g, 1, none⟩ x).setCell ⟨g, 2, none⟩ y).setCell ⟨g, 3, none⟩ z).setCell ⟨g, 4, none⟩ u).setCell ⟨g, 5, none⟩ v) :=
 (((((h.setCell (p := ⟨g, 0, none⟩) hg _).setCell (p := ⟨g, 1, none⟩) hg _).setCell (p := ⟨g, 2, none⟩) hg _).setCell (p := ⟨g, 3, none⟩) hg _).setCell (p := ⟨g, 4, none⟩) hg _).setCell (p := ⟨g, 5, none⟩) hg _
theorem ResP.mk {L : List UInt8} {w W : World} {q : Nat} (cc kd b : Int) (nm : ByteArray) (v : Value) (sh : Bool) (l : List AT) (us : List Value) (h1 : rtC L = cc) (h2 : rtT L = ⟨kd, b, nm, l, sh⟩) (ho : OA q W v l us) (hb : Below w.heap.size w W) (hq : w.heap.size < q) :
  ResP L w (.returned (.agg #[.int .i64 cc, .int .i64 kd, .int .i64 b, .string nm, v, .bool sh])) ((((((W.setCell ⟨w.heap.size, 0, none⟩ (.int .i64 cc)).setCell ⟨w.heap.size, 1, none⟩ (.int .i64 kd)).setCell ⟨w.heap.size, 2, none⟩ (.int .i64 b)).setCell ⟨w.heap.size, 3, none⟩ (.string nm)).setCell ⟨w.heap.size, 4, none⟩ v).setCell ⟨w.heap.size, 5, none⟩ (.bool sh)) := by
 unfold ResP
 rw [h1, h2]
 exact ⟨v, us, rfl, ho.keep (by omega) (fun k hk _ => six_other W w.heap.size k _ _ _ _ _ _ (by omega)), six_below hb w.heap.size _ _ _ _ _ _ (Nat.le_refl _)⟩
theorem catch_panic (r : Nat) (tp : TypeId) (pv : Value) (older : List PanicEntry) (w : World) {c x y z u v : Value} (hr : w.rowIs r 157 6 (r6 c x y z u v)) :
  CallsD Tryz.prog 125 #[.pointer (some ⟨r, 0, none⟩)] (.panicking ({ v := .iface tp pv, recovered := false } :: older)) w fun e u' w' =>
   e = .returned (.tuple #[]) ∧ u' = .panicking ({ v := .iface tp pv, recovered := true } :: older) ∧ w' = (((((w.setCell ⟨r, 0, none⟩ (.int .i64 5)).setCell ⟨r, 1, none⟩ (.int .i64 0)).setCell ⟨r, 2, none⟩ (.int .i64 0)).setCell ⟨r, 3, none⟩ (.string ⟨#[]⟩)).setCell ⟨r, 4, none⟩ (.slice none 0 0)).setCell ⟨r, 5, none⟩ (.bool false) := by
 obtain ⟨d0, d1, d2, d3, d4, d5, d6⟩ := cells6 hr
 have f0 := hr.frozen 0
 have f1 := hr.frozen 1
 have f2 := hr.frozen 2
 have f3 := hr.frozen 3
 have f4 := hr.frozen 4
 have f5 := hr.frozen 5
 clear hr
 refine callsD_of_wpS Tryz.func125 rfl fun c₀ cs hu => ?_
 apply wpS_seq
 apply wpS_region
 simp [wpOpsS, go_sem, recoverD, hu, Tryz.ntmps125, Exit.thenS]
 refine wpS_cond (t := true) (by simp [Act.eval, Array.replicate]) ?_
 simp only [if_true]
 apply wpS_region
 simp [wpOpsS, go_sem, d0, d1, d2, d3, d4, d5, d6, f0, f1, f2, f3, f4, f5, bodyPostS, results, Tryz.results125]
theorem catch_idle (r : Nat) (w : World) :
  CallsD Tryz.prog 125 #[.pointer (some ⟨r, 0, none⟩)] .returning w fun e u' w' => e = .returned (.tuple #[]) ∧ u' = .returning ∧ w' = w := by
 refine callsD_of_wpS Tryz.func125 rfl fun c₀ cs hu => ?_
 apply wpS_seq
 apply wpS_region
 simp [wpOpsS, go_sem, recoverD, hu, Tryz.ntmps125, Exit.thenS]
 refine wpS_cond (t := false) (by simp [Act.eval, Array.replicate]) ?_
 simp only [Bool.false_eq_true, if_false]
 refine wpS_of_wp (wp_skip ?_)
 cases c₀
 simp_all [bodyPostS, results, Tryz.results125]
theorem implRT_any (s : ByteArray) (tp : TypeId) (pv : Value) (w : World) (hE : Env w.heap.size tp pv w) (hs : s.size ≤ 1048576) :
  Calls Tryz.prog 115 #[.string s] w fun e w' => ResP s.data.toList w e w' := by
 have hmf : ∀ (fn : Fn) (first cap : Array Value) (w : World), (Instr.makeFunc fn first cap).run Tryz.prog w = .ok (.func fn first cap) w := fun _ _ _ _ => rfl
 have hl := len_list s
 have N0 := below_new w (.cells #[.int .i64 0, .int .i64 0, .int .i64 0, .string ⟨#[]⟩, .slice none 0 0, .bool false] 157)
 have RR := row6 w 157 (.int .i64 0) (.int .i64 0) (.int .i64 0) (.string ⟨#[]⟩) (.slice none 0 0) (.bool false)
 have sz0 : (w.alloc (.cells #[.int .i64 0, .int .i64 0, .int .i64 0, .string ⟨#[]⟩, .slice none 0 0, .bool false] 157)).heap.size = w.heap.size + 1 := by simp
 obtain ⟨d0, d1, d2, d3, d4, d5, d6⟩ := cells6 RR
 have f0 := RR.frozen 0
 have f1 := RR.frozen 1
 have f2 := RR.frozen 2
 have f3 := RR.frozen 3
 have f4 := RR.frozen 4
 have f5 := RR.frozen 5
 have HR := Hid.mk' RR
 have B0 := Hid.mk' N0
 have E0 := Hid.mk' (hE.keep N0)
 clear RR N0 hE
 generalize hw0 : w.alloc (.cells #[.int .i64 0, .int .i64 0, .int .i64 0, .string ⟨#[]⟩, .slice none 0 0, .bool false] 157) = w0 at *
 by_cases c1 : 160 < s.size
 ·have E1 := Hid.mk' (show rtC s.data.toList = 6 by unfold rtC; rw [if_pos (by omega)])
  have E2 := Hid.mk' (show rtT s.data.toList = ⟨0, 0, ⟨#[]⟩, [], false⟩ by unfold rtT; rw [if_pos (by omega)])
  have ci : (160 : Int) < (s.size : Int) := by omega
  have FIN := Hid.mk' (ResP.mk (L := s.data.toList) 6 0 0 ⟨#[]⟩ _ false [] [] E1.out E2.out (OA.nil (w.heap.size + 1) w0) B0.out (by omega))
  go_enter_defers Tryz.func115, Tryz.ntmps115
  go_wp2
  clear hw0
  refine ⟨.agg #[.int .i64 6, .int .i64 0, .int .i64 0, .string ⟨#[]⟩, .slice none 0 0, .bool false], ?_, FIN.out⟩
  simp [results, Tryz.results115, go_sem, d0, d1, d2, d3, d4, d5, d6]
 have ci : ¬ (160 : Int) < (s.size : Int) := by omega
 have es : (⟨s.data.toList.toArray⟩ : ByteArray) = s := ba_ext (by simp)
 have N1 := below_new w0 (.cells #[.string s] 168)
 have RL0 : RL w0.heap.size s.data.toList (w0.alloc (.cells #[.string s] 168)) := by
  refine ⟨_, Deep.blk_alloc_new _ _, rfl, fun i hi => ?_⟩
  obtain rfl : i = 0 := by omega
  rw [es]; rfl
 rw [sz0] at RL0
 have KT := takeTag_any w.heap.size (w.heap.size + 1) s.data.toList tp pv _ (E0.out.keep (N1.mono (by omega))) (by omega) RL0 (by omega)
 have HR1 := Hid.mk' (rowB HR.out N1)
 have B1 := Hid.mk' (B0.out.trans (N1.mono (by omega)))
 have sz1 : (w0.alloc (.cells #[.string s] 168)).heap.size = w.heap.size + 1 + 1 := by simp [sz0]
 clear N1 RL0 E0
 cases hT : tagA s.data.toList with
 | none =>
  have E1 := Hid.mk' (show rtC s.data.toList = 5 by unfold rtC; rw [if_neg (by omega), hT])
  have E2 := Hid.mk' (show rtT s.data.toList = ⟨0, 0, ⟨#[]⟩, [], false⟩ by unfold rtT; rw [if_neg (by omega), hT])
  rw [hT] at KT
  clear hT
  go_enter_defers Tryz.func115, Tryz.ntmps115
  go_wp2_with fail
  clear hw0
  generalize w0.alloc (.cells #[.string s] 168) = w1 at *
  refine KT.mono ?_
  rintro e w2 ⟨rfl, hk⟩
  have R2 := rowK HR1.out hk (.inl (by omega))
  have B2 := Hid.mk' (B1.out.trans (hk.below (by omega) (by omega)))
  clear KT d0 d1 d2 d3 d4 d5 d6 f0 f1 f2 f3 f4 f5
  go_wp2
  refine leaves_cons (f := 125) (args := #[.pointer (some ⟨w.heap.size, 0, none⟩)]) (by simp) (by simp [go_sem]) ?_
  obtain ⟨d0, d1, d2, d3, d4, d5, d6⟩ := cells6 R2
  refine (catch_panic w.heap.size tp pv [] w2 R2).mono ?_
  rintro e u' w3 ⟨rfl, rfl, rfl⟩
  refine ⟨.agg #[.int .i64 5, .int .i64 0, .int .i64 0, .string ⟨#[]⟩, .slice none 0 0, .bool false], ?_, ResP.mk 5 0 0 ⟨#[]⟩ _ false [] [] E1.out E2.out (OA.nil (w.heap.size + 1) w2) B2.out (by omega)⟩
  simp [results, Tryz.results115, go_sem, d0, d1, d2, d3, d4, d5, d6]
 | some t =>
  have E1 := Hid.mk' (show rtC s.data.toList = 0 by unfold rtC; rw [if_neg (by omega), hT])
  have E2 := Hid.mk' (show rtT s.data.toList = t by unfold rtT; rw [if_neg (by omega), hT])
  rw [hT] at KT
  clear hT
  go_enter_defers Tryz.func115, Tryz.ntmps115
  go_wp2_with fail
  clear hw0
  generalize w0.alloc (.cells #[.string s] 168) = w1 at *
  refine KT.mono ?_
  rintro e w2 ⟨⟨v, us, rfl, hOA⟩, hk⟩
  have R2 := rowK HR1.out hk (.inl (by omega))
  have B2 := Hid.mk' (B1.out.trans (hk.below (by omega) (by omega)))
  clear d0 d1 d2 d3 d4 d5 d6 f0 f1 f2 f3 f4 f5
  obtain ⟨d0, d1, d2, d3, d4, d5, d6⟩ := cells6 R2
  have f0 := R2.frozen 0
  have f1 := R2.frozen 1
  have f2 := R2.frozen 2
  have f3 := R2.frozen 3
  have f4 := R2.frozen 4
  have f5 := R2.frozen 5
  obtain ⟨av, cv, rfl, _⟩ := hOA.at
  have HO := Hid.mk' hOA
  clear KT hOA hk R2
  go_wp2
  refine leaves_cons (f := 125) (args := #[.pointer (some ⟨w.heap.size, 0, none⟩)]) (by simp) (by simp [go_sem]) ?_
  refine (catch_idle w.heap.size _).mono ?_
  rintro e u' w3 ⟨rfl, rfl, rfl⟩
  refine ⟨.agg #[.int .i64 0, .int .i64 t.kd, .int .i64 t.by_, .string t.nm, .slice av t.at_.length cv, .bool t.sh], ?_, ResP.mk 0 t.kd t.by_ t.nm _ t.sh t.at_ us E1.out E2.out HO.out B2.out (by omega)⟩
  simp [results, Tryz.results115, go_sem, d0, d1, d2, d3, d4, d5, d6]
theorem Env.up {B B' : Nat} {tp : TypeId} {pv : Value} {w : World} (h : Env B tp pv w) (h1 : B ≤ B') (h2 : B' ≤ w.heap.size) : Env B' tp pv w :=
 ⟨h.refs, h.errs, h.tag, h2, Nat.lt_of_lt_of_le h.b0 h1, Nat.lt_of_lt_of_le h.b1 h1, Nat.lt_of_lt_of_le h.b2 h1, Nat.lt_of_lt_of_le h.b3 h1⟩
theorem strI_snoc (l : List Int) (x : Int) : strI (l ++ [x]) = strI l ++ ⟨#[UInt8.ofNat x.toNat]⟩ := by
 unfold strI
 rw [List.foldl_append]
 apply ByteArray.ext
 simp [ByteArray.push, ByteArray.append_eq, ByteArray.data_append]
theorem below_both {b : Nat} {w v : World} (h : Below b w v) (a : Addr) (x : Value) : Below b (w.setCell a x) (v.setCell a x) :=
 ⟨h.os, h.tape, h.output, by simpa [World.setCell] using h.size, fun k hk => by
  have := h.block k hk
  simp only [World.setCell, Array.getElem?_modify, this]⟩
def CmP (lo g : Nat) (hs : List Int) (ts : List TK) (w : World) (e : Ending) (w' : World) : Prop :=
 (tagA (strU (hs ++ [62])) = none ∧ e = .returned (.bool false) ∧ LXs lo g w' hs ts ∧ Below lo w w') ∨
 (∃ t, tagA (strU (hs ++ [62])) = some t ∧ e = .returned (.bool true) ∧ LXs lo g w' [] (ts ++ [t]) ∧ Below lo w w')
theorem closeMark_any (B lo g : Nat) (tp : TypeId) (pv : Value) (w : World) (hs : List Int) (ts : List TK) (h : LXs lo g w hs ts) (hE : Env B tp pv w) (hB : B ≤ lo) (hl : hs.length ≤ 159) (hn : ts.length ≤ 900000) :
  Calls Tryz.prog 106 #[.pointer (some ⟨g, 0, none⟩)] w fun e w' => CmP lo g hs ts w e w' := by
 obtain ⟨hv, tv, us, rs, bl, bh, h⟩ := h
 have lg := h.lg
 obtain ⟨c0, c1, c2⟩ := cellsQ2 h.box
 obtain ⟨p, c, rfl, hb⟩ := own_bat h.held
 have hcv := conv_bytesT c hb
 have z1 := strI_size hs
 have z2 := strI_size (hs ++ [62])
 have e2 : strI (hs ++ [62]) = strI hs ++ ⟨#[62]⟩ := strI_snoc hs 62
 have KR := Hid.mk' (implRT_any (strI hs ++ ⟨#[62]⟩) tp pv w (hE.up (by omega) (Nat.le_refl _)) (by rw [← e2, z2]; simp; omega))
 have EU : Hid ((strI hs ++ ⟨#[62]⟩).data.toList = strU (hs ++ [62])) := Hid.mk' (by unfold strU; rw [e2])
 have ln : ¬ 160 < (strU (hs ++ [62])).length := by
  have : (strU (hs ++ [62])).length = (strI (hs ++ [62])).size := by unfold strU; rw [len_list]
  rw [this, z2]; simp; omega
 have H := Hid.mk' h
 have LN := Hid.mk' ln
 have g9 : ¬ 9223372036854775807 < (strI hs).size + 1 := by rw [z1]; omega
 clear h hb e2 z2 ln
 generalize hS : strI hs = S at *
 go_enter Tryz.func106, Tryz.ntmps106
 go_wp2_with fail
 refine KR.out.mono ?_
 rintro e w1 ⟨v, us1, rfl, hoa, hb1⟩
 rw [EU.out] at hoa ⊢
 cases ht : tagA (strU (hs ++ [62])) with
 | none =>
  have e1 : rtC (strU (hs ++ [62])) = 5 := by unfold rtC; rw [if_neg LN.out, ht]
  have e2 : rtT (strU (hs ++ [62])) = ⟨0, 0, ⟨#[]⟩, [], false⟩ := by unfold rtT; rw [if_neg LN.out, ht]
  rw [e1, e2]
  rw [e2] at hoa
  obtain ⟨av, cv, rfl, _⟩ := hoa.at
  have B1 := Hid.mk' (hb1.trans ((below_new w1 (.cells #[.int .i64 5, .int .i64 0, .int .i64 0, .string ⟨#[]⟩, .slice av 0 cv, .bool false] 157)).mono hb1.size))
  clear hoa KR e1 e2 hb1
  have HT := Hid.mk' ht
  clear ht
  go_wp2
  go_ret
  exact .inl ⟨HT.out, rfl, ⟨_, _, _, _, _, _, H.out.below B1.out⟩, B1.out.mono (by omega)⟩
 | some t =>
  have e1 : rtC (strU (hs ++ [62])) = 0 := by unfold rtC; rw [if_neg LN.out, ht]
  have e2 : rtT (strU (hs ++ [62])) = t := by unfold rtT; rw [if_neg LN.out, ht]
  rw [e1, e2]
  rw [e2] at hoa
  obtain ⟨av, cv, rfl, _⟩ := hoa.at
  have HT := Hid.mk' ht
  have N1 := below_new w1 (.cells #[.int .i64 0, .int .i64 t.kd, .int .i64 t.by_, .string t.nm, .slice av t.at_.length cv, .bool t.sh] 157)
  have B1 := hb1.trans (N1.mono hb1.size)
  have R6 := row6 w1 157 (.int .i64 0) (.int .i64 t.kd) (.int .i64 t.by_) (.string t.nm) (.slice av t.at_.length cv) (.bool t.sh)
  have O1 := Hid.mk' (hoa.below N1)
  have OH := Hid.mk' hoa
  have L1 := (H.out.below B1)
  obtain ⟨d0, d1, d2⟩ := cellsQ2 L1.box
  obtain ⟨f0, f1⟩ := frzQ2 L1.box
  have HB := Hid.mk' B1
  have HL := Hid.mk' L1
  have S1 : w1.heap.size < (w1.alloc (.cells #[.int .i64 0, .int .i64 t.kd, .int .i64 t.by_, .string t.nm, .slice av t.at_.length cv, .bool t.sh] 157)).heap.size := by simp
  have SB := hb1.size
  obtain ⟨x0, x1, x2, x3, x4, x5, x6⟩ := cells6 R6
  clear hoa KR e1 e2 hb1 ht N1 B1 R6 L1
  generalize hV : w1.alloc (.cells #[.int .i64 0, .int .i64 t.kd, .int .i64 t.by_, .string t.nm, .slice av t.at_.length cv, .bool t.sh] 157) = V at *
  go_wp2_with fail
  clear hV
  have B3 : Below w.heap.size (w.setCell ⟨g, 0, none⟩ (.slice none 0 0)) ((V.setCell ⟨g, 0, none⟩ (.slice none 0 0)).alloc (.cells #[.int .i64 t.kd, .int .i64 t.by_, .string t.nm, .slice av t.at_.length cv, .bool t.sh] 107)) :=
   (below_both HB.out ⟨g, 0, none⟩ (.slice none 0 0)).alloc (by have := HB.out.size; simpa [World.setCell] using this) _
  have OK : OA w.heap.size ((V.setCell ⟨g, 0, none⟩ (.slice none 0 0)).alloc (.cells #[.int .i64 t.kd, .int .i64 t.by_, .string t.nm, .slice av t.at_.length cv, .bool t.sh] 107)) (.slice av t.at_.length cv) t.at_ us1 :=
   O1.out.keep (Nat.le_refl _) (fun k h1 h2 => by
    rw [(below_new _ _).block k (by simpa [World.setCell] using h2)]
    exact Deep.blk_setCell_other _ _ _ _ (by show k ≠ g; omega))
  have SZ3 := B3.size
  have T3 : TA w.heap.size ((V.setCell ⟨g, 0, none⟩ (.slice none 0 0)).alloc (.cells #[.int .i64 t.kd, .int .i64 t.by_, .string t.nm, .slice av t.at_.length cv, .bool t.sh] 107)).heap.size ((V.setCell ⟨g, 0, none⟩ (.slice none 0 0)).alloc (.cells #[.int .i64 t.kd, .int .i64 t.by_, .string t.nm, .slice av t.at_.length cv, .bool t.sh] 107)) [t] [.slice av t.at_.length cv] _ _ _ :=
   TA.one_tag OK (by simpa [World.setCell] using SZ3) (fun k e => (OK.row.lt k e).2) (fun i hi k e => (OK.val i hi).lt k e)
  have NC := new_cells' (V.setCell ⟨g, 0, none⟩ (.slice none 0 0)) 107 [.int .i64 t.kd, .int .i64 t.by_, .string t.nm, .slice av t.at_.length cv, .bool t.sh] V.heap.size (by simp [World.setCell])
  have hws : (w.setCell ⟨g, 0, none⟩ (.slice none 0 0)).heap.size = w.heap.size := by simp [World.setCell]
  have KL := Hid.mk' (tell_any lo g (some ⟨V.heap.size, 0, none⟩) 1 (w.setCell ⟨g, 0, none⟩ (.slice none 0 0)) _ _ _ _ _ _ _ _ _ [t] [.slice av t.at_.length cv] _ _ _ H.out.drop (by rw [hws]; exact B3) (by rw [hws]; exact T3) (.inr ⟨_, rfl, NC⟩) (by simp; omega))
  have BG : Hid (Below lo w ((V.setCell ⟨g, 0, none⟩ (.slice none 0 0)).alloc (.cells #[.int .i64 t.kd, .int .i64 t.by_, .string t.nm, .slice av t.at_.length cv, .bool t.sh] 107))) := Hid.mk' (((HB.out.mono (show lo ≤ w.heap.size by omega)).setCell (p := ⟨g, 0, none⟩) lg _).alloc (by have := HB.out.size; simp [World.setCell]; omega) _)
  clear B3 OK T3 NC O1 OH HL d0 d1 d2 f0 f1 x0 x1 x2 x3 x4 x5 x6
  refine KL.out.mono ?_
  rintro e w2 ⟨⟨v, rfl⟩, hx, hb2⟩
  have HX := Hid.mk' hx
  have B2 := Hid.mk' (BG.out.trans hb2)
  clear hx hb2 KL
  go_wp2
  go_ret
  exact .inr ⟨t, HT.out, rfl, HX.out, B2.out⟩
theorem convX {lo g n c : Nat} {a : Option Addr} {W : World} {tv : Value} {hs : List Int} {ts : List TK} {us : List Value} {rs : Nat → List Value} {bl bh : Nat → Nat} (h : LX lo g W (.slice a n c) tv hs ts us rs bl bh) (hn : hs.length = n) : (convert 22 9 (.slice a n c)).run Tryz.prog W = .ok (.string (strI hs)) W := by
 obtain ⟨p, c', e, hb⟩ := own_bat h.held
 cases e
 exact conv_bytesT c hb
theorem closeRef_any (B lo g : Nat) (tp : TypeId) (pv : Value) (w : World) (hs : List Int) (ts : List TK) (h : LXs lo g w hs ts) (hE : Env B tp pv w) (hB : B ≤ lo) (hu : Byt hs) (hl : hs.length ≤ 200) (hn : ts.length ≤ 900000) :
  Calls Tryz.prog 103 #[.pointer (some ⟨g, 0, none⟩)] w fun e w' => LxP lo g [] (ts ++ bytesT (refT hs 59)) w e w' := by
 obtain ⟨hv, tv, us, rs, bl, bh, h⟩ := h
 have lg := h.lg
 have N0 := below_new w (.cells #[.int .u8 59] 5)
 have HX := Hid.mk' (h.below N0)
 have NC := Hid.mk' (new_cells' w 5 [.int .u8 59] w.heap.size rfl)
 have H := Hid.mk' h
 obtain ⟨c0, c1, c2⟩ := cellsQ2 h.box
 obtain ⟨x0, x1, x2⟩ := cellsQ2 HX.out.box
 have HN := Hid.mk' N0
 have SZ : Hid (lo ≤ (w.alloc (.cells #[.int .u8 59] 5)).heap.size) := Hid.mk' (by simp; omega)
 have P1 : Hid (∀ u ∈ ([.int .u8 59] : List Value), u.oneCell' = true) := Hid.mk' (by intro u hu'; rw [List.mem_singleton] at hu'; rw [hu']; rfl)
 obtain ⟨ha, hc, rfl, _⟩ := own_src h.held
 obtain ⟨m, hm⟩ : ∃ m, m = hs ++ [(59 : Int)] := ⟨_, rfl⟩
 have lm : m.length = hs.length + 1 := by rw [hm]; simp
 have zm := strI_size m
 have EE := Hid.mk' hE
 have lm' : (hs ++ [(59 : Int)]).length = hs.length + 1 := by simp
 have r1b := refOf_byte (strU m)
 clear h N0 hE
 go_enter Tryz.func103, Tryz.ntmps103
 go_wp2_with (first | (at_builtin; refine wpList_append_at _ rfl (.tmp 7) (.tmp 8) 22 rfl lo 5 (.int .u8 0) 1 1 Tryz.underlying22 Tryz.info5 rfl (by decide) _ _ _ rfl HX.out.held _ 1 _ [.int .u8 59] rfl rfl (.inr ⟨_, rfl, NC.out⟩) P1.out (by unfold maxLen; omega) (by omega) SZ.out ?_; intro v' w2 ho hgr hat; obtain ⟨a', c', rfl, _⟩ := own_src ho; obtain ⟨d1, f1⟩ := HX.out.spotH hgr; have L2 := Hid.mk' (holdX H.out HN.out ho hgr hat); have hcv := convX L2.out lm'; have B2 := Hid.mk' (heldBl HX.out HN.out hgr (.slice a' (hs.length + 1) c') (Nat.le_trans lg (Nat.le_of_lt c2))); clear ho hgr hat) | fail)
 have KR := Hid.mk' (implRA_any (strI m) 0 (w2.setCell ⟨g, 0, none⟩ (.slice a' (hs.length + 1) c')) (by rw [zm, lm]; omega) (by omega) (by omega) (EE.out.keep (B2.out.mono hB)).refs (EE.out.keep (B2.out.mono hB)).errs)
 rw [hm] at KR
 rw [← hm] at L2
 clear hcv d1 f1 x0 x1 x2 c0 c1
 generalize hV : w2.setCell ⟨g, 0, none⟩ (.slice a' (hs.length + 1) c') = V at *
 clear hV
 refine KR.out.mono ?_
 rintro e w3 ⟨rfl, hb3⟩
 rw [← hm]
 have hd : raOf (strI m).data.toList 0 = (if (refOf (strU m)).2 = 0 then (5, 0, 0) else (0, ((refOf (strU m)).1 : Int), ((refOf (strU m)).2 : Int))) := by
  unfold raOf
  have hlen : (strI m).data.toList.length = m.length := by rw [len_list, zm]
  rw [if_pos ⟨Int.le_refl _, by rw [hlen, lm]; omega⟩]
  rfl
 rw [hd]
 have BS := B2.out.size
 have h3s := hb3.size
 by_cases ha2 : (refOf (strU m)).2 = hs.length + 1
 ·-- a reference
  have hne : ¬ (refOf (strU m)).2 = 0 := by omega
  rw [if_neg hne]
  have ER : Hid (refT hs 59 = [((refOf (strU m)).1 : Int)]) := Hid.mk' (by
   unfold refT
   rw [if_pos rfl]
   show (if (refOf (strU (hs ++ [(59 : Int)]))).2 = hs.length + 1 then [((refOf (strU (hs ++ [(59 : Int)]))).1 : Int)] else hs ++ [(59 : Int)]) = _
   rw [← hm, if_pos ha2])
  obtain ⟨r2, hr2⟩ : ∃ r2, (refOf (strU m)).2 = r2 := ⟨_, rfl⟩
  rw [hr2] at ha2 ⊢
  have hq : ((r2 : Int) != (hs.length : Int) + 1) = false := by simp; omega
  clear ha2 hne hr2
  generalize (refOf (strU m)).1 = r1 at *
  dsimp only
  have N3 := below_new w3 (.cells #[.int .i64 0, .int .i64 (r1 : Int), .int .i64 (r2 : Int)] 154)
  have B3 := hb3.trans (N3.mono hb3.size)
  have R3 := row3 w3 154 (.int .i64 0) (.int .i64 (r1 : Int)) (.int .i64 (r2 : Int))
  obtain ⟨y0, y1, y2, y3⟩ := cells3 R3
  have L3 := L2.out.below B3
  obtain ⟨z0, z1, z2⟩ := cellsQ2 L3.box
  obtain ⟨g0, g1⟩ := frzQ2 L3.box
  have HL := Hid.mk' L3
  have HB3 := Hid.mk' (B2.out.trans (B3.mono (by have := L2.out.lt; omega)))
  have HM := Hid.mk' hm
  have LM := Hid.mk' lm
  have HR3 := Hid.mk' R3
  clear KR hd N3 R3 B3 L3 hb3 L2 hm lm lm' zm BS h3s
  go_wp2_with fail
  generalize hV : w3.alloc (.cells #[.int .i64 0, .int .i64 (r1 : Int), .int .i64 (r2 : Int)] 154) = V3 at *
  clear hV
  refine wp_region_held_drew (S := (fun w' => w'.cell? ⟨w3.heap.size, 0, none⟩ = some (.int .i64 0) ∧ w'.cell? ⟨w3.heap.size, 2, none⟩ = some (.int .i64 (r2 : Int)) ∧ w'.cell? ⟨g, 0, none⟩ = some (.slice a' (hs.length + 1) c'))) (by kernel_rfl) ⟨y0, y2, z0⟩ (fun hHeld => ?_)
  refine tkY 0 ?_
  refine tkY 1 ?_
  refine tkY 2 ?_
  refine tkY 3 ?_
  refine tkY 4 ?_
  refine tkY 5 ?_
  refine tkY 6 ?_
  refine tkY 7 ?_
  refine tkY 8 ?_
  refine tkY 9 ?_
  refine tkY 10 ?_
  refine tkY 11 ?_
  refine tkY 12 ?_
  refine wpAnyH_done (by kernel_rfl) ?_ _
  have DB : Below V3.heap.size V3 V3.drew := (Below.refl _ _).drew
  have R4 := rowB HR3.out DB
  have L4 := HL.out.below DB
  have HB4 := HB3.out.trans (DB.mono (by have := HL.out.lt; omega))
  obtain ⟨q0, q1, q2, q3⟩ := cells3 R4
  obtain ⟨p0, p1, p2⟩ := cellsQ2 L4.box
  obtain ⟨k0, k1⟩ := frzQ2 L4.box
  have HL4 := Hid.mk' L4
  have HB4 := Hid.mk' HB4
  clear y0 y1 y2 y3 z0 z1 z2 g0 g1 DB R4 L4 HR3 HL HB3 hHeld
  generalize hV : V3.drew = V4 at *
  clear hV
  go_wp2_with fail
  have LD := HL4.out.drop
  have hws : (V4.setCell ⟨g, 0, none⟩ (.slice none 0 0)).heap.size = V4.heap.size := by simp [World.setCell]
  have NB := below_new (V4.setCell ⟨g, 0, none⟩ (.slice none 0 0)) (.cells #[.int .i64 1, .int .i64 (r1 : Int), .string ⟨#[]⟩, .slice none 0 0, .bool false] 107)
  have NCC := new_cells' (V4.setCell ⟨g, 0, none⟩ (.slice none 0 0)) 107 [.int .i64 1, .int .i64 (r1 : Int), .string ⟨#[]⟩, .slice none 0 0, .bool false] V4.heap.size hws
  have KL := tell_any lo g (some ⟨V4.heap.size, 0, none⟩) 1 _ _ _ _ _ _ _ _ _ _ (bytesT [(r1 : Int)]) (nils 1) (fun _ => []) (fun _ => _) (fun _ => _) LD NB ((TA.bytes _ _ [(r1 : Int)]).widen (Nat.le_refl _) NB.size) (.inr ⟨_, rfl, NCC⟩) (by rw [bytesT_len]; simp; omega)
  rw [bytesT_len] at KL
  have KL := Hid.mk' KL
  have BG := Hid.mk' (((HB4.out).setCell (p := ⟨g, 0, none⟩) lg (.slice none 0 0)).trans (NB.mono (by rw [hws]; omega)))
  clear LD NB NCC q0 q1 q2 q3 p0 p1 p2 k0 k1
  refine KL.out.mono ?_
  rintro e w4 ⟨⟨v, rfl⟩, hx, hb4⟩
  have HX4 := Hid.mk' hx
  have B4 := Hid.mk' (BG.out.trans hb4)
  clear hx hb4 KL
  go_wp2
  go_end0
  refine ⟨⟨_, rfl⟩, ?_, B4.out⟩
  rw [ER.out]
  exact HX4.out
 ·by_cases h0 : (refOf (strU m)).2 = 0
  ·rw [if_pos h0]
   have ER : Hid (refT hs 59 = m) := Hid.mk' (by
    unfold refT
    rw [if_pos rfl]
    show (if (refOf (strU (hs ++ [(59 : Int)]))).2 = hs.length + 1 then [((refOf (strU (hs ++ [(59 : Int)]))).1 : Int)] else hs ++ [(59 : Int)]) = _
    rw [← hm, if_neg ha2])
   clear ha2 h0 r1b
   dsimp only
   have N3 := below_new w3 (.cells #[.int .i64 5, .int .i64 0, .int .i64 0] 154)
   have B3 := hb3.trans (N3.mono hb3.size)
   have R3 := row3 w3 154 (.int .i64 5) (.int .i64 0) (.int .i64 0)
   obtain ⟨y0, y1, y2, y3⟩ := cells3 R3
   have L3 := L2.out.below B3
   obtain ⟨z0, z1, z2⟩ := cellsQ2 L3.box
   obtain ⟨g0, g1⟩ := frzQ2 L3.box
   have HL := Hid.mk' L3
   have HB3 := Hid.mk' (B2.out.trans (B3.mono (by have := L2.out.lt; omega)))
   have HM := Hid.mk' hm
   have LM := Hid.mk' lm
   have HR3 := Hid.mk' R3
   clear KR hd N3 R3 B3 L3 hb3 L2 hm lm lm' zm BS h3s
   go_wp2_with fail
   generalize hV : w3.alloc (.cells #[.int .i64 5, .int .i64 0, .int .i64 0] 154) = V3 at *
   clear hV
   refine wp_region_held_drew (S := (fun w' => w'.cell? ⟨w3.heap.size, 0, none⟩ = some (.int .i64 5) ∧ w'.cell? ⟨w3.heap.size, 2, none⟩ = some (.int .i64 0) ∧ w'.cell? ⟨g, 0, none⟩ = some (.slice a' (hs.length + 1) c'))) (by kernel_rfl) ⟨y0, y2, z0⟩ (fun hHeld => ?_)
   refine tkY 0 ?_
   refine tkY 1 ?_
   refine tkY 2 ?_
   refine tkY 3 ?_
   refine tkU 4 ?_
   refine tkU 5 ?_
   refine tkU 6 ?_
   refine tkU 7 ?_
   refine tkU 8 ?_
   refine tkU 9 ?_
   refine tkU 10 ?_
   refine tkU 11 ?_
   refine tkY 12 ?_
   refine wpAnyH_done (by kernel_rfl) ?_ _
   have KG := Hid.mk' (letGo_any lo g V3.drew m ts ⟨_, _, _, _, _, _, HL.out.below (Below.refl _ _).drew⟩ (by rw [HM.out]; exact hu.snoc 59 (by omega)) (by have := LM.out; omega))
   clear y0 y1 y2 y3 z0 z1 z2 g0 g1
   go_wp2_with fail
   refine KG.out.mono ?_
   rintro e w4 ⟨⟨v, rfl⟩, hx, hb4⟩
   have HX4 := Hid.mk' hx
   have B4 := Hid.mk' (HB3.out.trans ((Below.refl _ _).drew.trans hb4))
   clear hx hb4 KG
   go_wp2
   (try simp only [Exit.inBlock, Exit.then])
   refine bodyPost_ret (results_none rfl _ _ _) rfl ?_
   refine ⟨⟨_, rfl⟩, ?_, B4.out⟩
   rw [ER.out]
   exact HX4.out
  ·rw [if_neg h0]
   have ER : Hid (refT hs 59 = m) := Hid.mk' (by
    unfold refT
    rw [if_pos rfl]
    show (if (refOf (strU (hs ++ [(59 : Int)]))).2 = hs.length + 1 then [((refOf (strU (hs ++ [(59 : Int)]))).1 : Int)] else hs ++ [(59 : Int)]) = _
    rw [← hm, if_neg ha2])
   obtain ⟨r2, hr2⟩ : ∃ r2, (refOf (strU m)).2 = r2 := ⟨_, rfl⟩
   rw [hr2] at ha2 ⊢
   have hq : ((r2 : Int) != (hs.length : Int) + 1) = true := by simp; omega
   clear ha2 h0 hr2
   generalize (refOf (strU m)).1 = r1 at *
   dsimp only
   have N3 := below_new w3 (.cells #[.int .i64 0, .int .i64 (r1 : Int), .int .i64 (r2 : Int)] 154)
   have B3 := hb3.trans (N3.mono hb3.size)
   have R3 := row3 w3 154 (.int .i64 0) (.int .i64 (r1 : Int)) (.int .i64 (r2 : Int))
   obtain ⟨y0, y1, y2, y3⟩ := cells3 R3
   have L3 := L2.out.below B3
   obtain ⟨z0, z1, z2⟩ := cellsQ2 L3.box
   obtain ⟨g0, g1⟩ := frzQ2 L3.box
   have HL := Hid.mk' L3
   have HB3 := Hid.mk' (B2.out.trans (B3.mono (by have := L2.out.lt; omega)))
   have HM := Hid.mk' hm
   have LM := Hid.mk' lm
   have HR3 := Hid.mk' R3
   clear KR hd N3 R3 B3 L3 hb3 L2 hm lm lm' zm BS h3s
   go_wp2_with fail
   generalize hV : w3.alloc (.cells #[.int .i64 0, .int .i64 (r1 : Int), .int .i64 (r2 : Int)] 154) = V3 at *
   clear hV
   refine wp_region_held_drew (S := (fun w' => w'.cell? ⟨w3.heap.size, 0, none⟩ = some (.int .i64 0) ∧ w'.cell? ⟨w3.heap.size, 2, none⟩ = some (.int .i64 (r2 : Int)) ∧ w'.cell? ⟨g, 0, none⟩ = some (.slice a' (hs.length + 1) c'))) (by kernel_rfl) ⟨y0, y2, z0⟩ (fun hHeld => ?_)
   refine tkY 0 ?_
   refine tkY 1 ?_
   refine tkY 2 ?_
   refine tkY 3 ?_
   refine tkY 4 ?_
   refine tkY 5 ?_
   refine tkY 6 ?_
   refine tkY 7 ?_
   refine tkY 8 ?_
   refine tkY 9 ?_
   refine tkY 10 ?_
   refine tkY 11 ?_
   refine tkY 12 ?_
   refine wpAnyH_done (by kernel_rfl) ?_ _
   have KG := Hid.mk' (letGo_any lo g V3.drew m ts ⟨_, _, _, _, _, _, HL.out.below (Below.refl _ _).drew⟩ (by rw [HM.out]; exact hu.snoc 59 (by omega)) (by have := LM.out; omega))
   clear y0 y1 y2 y3 z0 z1 z2 g0 g1
   go_wp2_with fail
   refine KG.out.mono ?_
   rintro e w4 ⟨⟨v, rfl⟩, hx, hb4⟩
   have HX4 := Hid.mk' hx
   have B4 := Hid.mk' (HB3.out.trans ((Below.refl _ _).drew.trans hb4))
   clear hx hb4 KG
   go_wp2
   (try simp only [Exit.inBlock, Exit.then])
   refine bodyPost_ret (results_none rfl _ _ _) rfl ?_
   refine ⟨⟨_, rfl⟩, ?_, B4.out⟩
   rw [ER.out]
   exact HX4.out

end Go.Proofs.YtlimgcmhidooaaaGreatDoor
