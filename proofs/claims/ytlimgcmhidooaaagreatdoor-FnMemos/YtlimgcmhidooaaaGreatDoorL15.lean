/- The listed variables of a reader of tags: out of their reading, and that a call leaves them. -/
import Derived.Test.YtlimgcmhidooaaaGreatDoorL7
import Derived.Test.YtlimgcmhidooaaaGreatDoorL14
import Derived.OpenShut
import Derived.RowKitTokens
set_option linter.unusedVariables false
set_option linter.unusedSimpArgs false
namespace Go.Proofs.YtlimgcmhidooaaaGreatDoor
open Go.ChangeShapes Go.WideShapes Go.ChangeAt Go.RowKit
set_option maxRecDepth 100000

theorem gIf (n : String) (h : ((Tryz.prog.globalNamed n).bind fun g => (Tryz.prog.globals[g]?).map (·.type)) = some 180) {g t : Nat} (hg : Tryz.prog.globalNamed n = some g) (ht : (Tryz.prog.globals[g]?).map (·.type) = some t) : t = 180 := by
  rw [hg, Option.bind_some, ht] at h
  exact Option.some.inj h

theorem err_of_reads {w : World} {n nm : String} {d : DataW Unit} (hn : ((Tryz.prog.globalNamed n).bind fun g => (Tryz.prog.globals[g]?).map (·.type)) = some 180) (h : Lib.VarReads Tryz.prog w n (.iface nm d)) : ∃ tp p, w.var? Tryz.prog n = some #[.iface tp p] := by
  obtain ⟨g, t, cs, fuel, p, hg, ht, hv, hd⟩ := h
  obtain rfl := gIf n hn hg ht
  obtain ⟨l⟩ := cs
  cases fuel with
  | zero => simp [DataW.trod] at hd
  | succ fuel =>
    rcases l with _ | ⟨v, _ | ⟨x, r⟩⟩
    · simp [DataW.trod, Tryz.underlying180] at hd
    · cases v with
      | iface u v => exact ⟨u, v, hv⟩
      | _ => simp [DataW.trod, Tryz.underlying180] at hd
    · simp [DataW.trod, Tryz.underlying180] at hd
theorem tES : ((Tryz.prog.globalNamed "strconv.ErrSyntax").bind fun g => (Tryz.prog.globals[g]?).map (·.type)) = some 180 := by kernel_rfl
theorem tER : ((Tryz.prog.globalNamed "strconv.ErrRange").bind fun g => (Tryz.prog.globals[g]?).map (·.type)) = some 180 := by kernel_rfl
theorem tNT : ((Tryz.prog.globalNamed "loop.example/g00606/impl.errNoTag").bind fun g => (Tryz.prog.globals[g]?).map (·.type)) = some 180 := by kernel_rfl
theorem gTag : Tryz.prog.globalNamed "loop.example/g00606/impl.errNoTag" = some 1 := by kernel_rfl
theorem tTag : (Tryz.prog.globals[1]?).map (·.type) = some 180 := by kernel_rfl

abbrev laid7 : List (String × DataW Unit) := [("math/bits.deBruijn32tab", Rows.laid_math_bits_deBruijn32tab), ("math/bits.deBruijn64tab", Rows.laid_math_bits_deBruijn64tab), ("internal/strconv.uint64pow10", Rows.laid_internal_strconv_uint64pow10), ("strconv.ErrRange", Rows.laid_strconv_ErrRange), ("strconv.ErrSyntax", Rows.laid_strconv_ErrSyntax), ("loop.example/g00606/impl.namedRefs", Rows.laid_loop_example_g00606_impl_namedRefs), ("loop.example/g00606/impl.errNoTag", Rows.laid_loop_example_g00606_impl_errNoTag)]
theorem door_met7 (os : Os) (args : Array Value) : laidMetH Tryz.prog laid7 ((World.doorLaid Tryz.prog 400 os).forCall (fun _ _ => 0) ⟨#[], args, []⟩).memory :=
  laidMetH_of_parts3 (fuel := 8) (laidMet_of_run' 8 (by kernel_rfl) (by kernel_rfl)) (by kernel_rfl) (by kernel_rfl)
theorem plain7 (w : World) (h : laidMetH Tryz.prog laid7 w) : laidMet Tryz.prog laid7 w := by
  rw [MakeChecks.laidMetH_plain _ _ _ (by kernel_rfl)] at h
  exact h
theorem errs7 {w : World} (h : laidMet Tryz.prog laid7 w) : Errs w :=
  ⟨err_of_reads tES (Lib.laidMet.reads h (by simp only [laid7, Rows.laid_strconv_ErrSyntax, List.mem_cons]; exact .inr (.inr (.inr (.inr (.inl rfl)))))), err_of_reads tER (Lib.laidMet.reads h (by simp only [laid7, Rows.laid_strconv_ErrRange, List.mem_cons]; exact .inr (.inr (.inr (.inl rfl)))))⟩
theorem refs7 {w : World} (h : laidMet Tryz.prog laid7 w) : w.var? Tryz.prog "loop.example/g00606/impl.namedRefs" = some cells8.toArray :=
  var_of_reads (Lib.laidMet.reads h (by simp [laid7]))
theorem tag7 {w : World} (h : laidMet Tryz.prog laid7 w) : ∃ tp p, w.var? Tryz.prog "loop.example/g00606/impl.errNoTag" = some #[.iface tp p] :=
  err_of_reads tNT (Lib.laidMet.reads h (by simp only [laid7, Rows.laid_loop_example_g00606_impl_errNoTag, List.mem_cons]; exact .inr (.inr (.inr (.inr (.inr (.inr (.inl rfl))))))))

theorem lt_of_var {w : World} {n : String} {g : Nat} {x : Value} (hg : Tryz.prog.globalNamed n = some g) (h : w.var? Tryz.prog n = some #[x]) : g < w.heap.size := by
  have h0 := World.var?_cell hg h 0
  refine Nat.lt_of_not_le fun hn => ?_
  have : w.heap[g]? = none := Array.getElem?_eq_none hn
  simp [World.cell?, this] at h0
theorem var_kept {w w' : World} {n : String} {g : Nat} {x : Value} (hg : Tryz.prog.globalNamed n = some g) (h : w.var? Tryz.prog n = some #[x]) (hb : Below w.heap.size w w') : w'.var? Tryz.prog n = some #[x] := by
  rw [var_same hg (hb.block g (lt_of_var hg h))]; exact h

theorem env7 {w : World} {tp : TypeId} {pv : Value} (h : laidMet Tryz.prog laid7 w) (ht : w.var? Tryz.prog "loop.example/g00606/impl.errNoTag" = some #[.iface tp pv]) : Env w.heap.size tp pv w := by
  have e := errs7 h
  obtain ⟨⟨_, _, h1⟩, ⟨_, _, h2⟩⟩ := id e
  exact ⟨refs_of_var (refs7 h), e, by simpa [NoTag] using World.var?_cell gTag ht 0, Nat.le_refl _, lt_of_var gTag ht, var_lt (refs7 h), lt_of_var gSyn h1, lt_of_var gRan h2⟩
end Go.Proofs.YtlimgcmhidooaaaGreatDoor

namespace Go.Proofs.YtlimgcmhidooaaaGreatDoor
open Go.RowKit

def TagP (r : Option TK) (w : World) (e : Ending) (w' : World) : Prop := ∃ (t : TK) (v : Value) (us : List Value) (ok : Bool), e = .returned (.tuple #[.agg #[.int .i64 t.kd, .int .i64 t.by_, .string t.nm, v, .bool t.sh], .bool ok]) ∧ OA w.heap.size w' v t.at_ us ∧ r = (if ok = true then some t else none) ∧ Below w.heap.size w w'

def startA (L : List UInt8) : Option TK :=
  if 1 ≤ spn pL (L.drop 1) ∧ spn pL (L.drop 1) ≤ 8 then
      (match insideA (L.length + 1) (L.drop (1 + spn pL (L.drop 1))) [] with
      | none => none
      | some (l, sh) => some ⟨2, 0, ⟨((L.drop 1).take (spn pL (L.drop 1))).toArray⟩, l, sh⟩)
    else none

theorem inside_end {f : Nat} {L : List UInt8} {k : Nat} {acc : List AT} (hb : pB (L.getD k 0) = false) : insideA (f + 1) (L.drop k) acc = (if (L.getD k 0).toNat = 47 then (if k + 1 + 1 = L.length ∧ (L.getD (k + 1) 0).toNat = 62 then some (acc, true) else none) else (if k + 1 = L.length ∧ (L.getD k 0).toNat = 62 then some (acc, false) else none)) := by
  have hz : spn pB (L.drop k) = 0 := spn_zero_of (by rw [getD_drop, Nat.add_zero]; exact hb)
  unfold insideA
  rw [hz]
  simp only [List.drop_drop, Nat.add_zero, getD_drop, Nat.zero_add, if_true, one_left]
  by_cases h47 : (L.getD k 0).toNat = 47
  · rw [if_pos h47, if_pos h47]
  · rw [if_neg h47, if_neg h47]
    by_cases h62 : (L.getD k 0).toNat = 62
    · rw [if_pos h62]
    · rw [if_neg h62, if_neg (fun h => h62 h.2)]

theorem inside_attr {f : Nat} {L : List UInt8} {acc : List AT} {b : Nat} (hs : spn pB L = b) (hb : 1 ≤ b) (hc : pL ((L.drop b).getD 0 0) = true) : insideA (f + 1) L acc = (match attrA (L.drop b) with
      | none => none
      | some (a, n) => insideA f (L.drop (b + n)) (addA acc a)) := by
  have h := (ltrB_iff _).1 hc
  unfold ltr at h
  conv => lhs; unfold insideA
  rw [hs, if_neg (by omega), if_neg (by omega), if_neg (by omega)]
  cases attrA (L.drop b) with
  | none => rfl
  | some p => rfl

theorem five_other (w : World) (g k : Nat) (x y z u v : Value) (h : k ≠ g) : (((((w.setCell ⟨g, 0, none⟩ x).setCell ⟨g, 1, none⟩ y).setCell ⟨g, 2, none⟩ z).setCell ⟨g, 3, none⟩ u).setCell ⟨g, 4, none⟩ v).heap[k]? = w.heap[k]? := by
  rw [Deep.blk_setCell_other _ _ _ _ h, Deep.blk_setCell_other _ _ _ _ h, Deep.blk_setCell_other _ _ _ _ h, Deep.blk_setCell_other _ _ _ _ h, Deep.blk_setCell_other _ _ _ _ h]
theorem five_below {B : Nat} {w w' : World} (h : Below B w w') (g : Nat) (x y z u v : Value) (hg : B ≤ g) : Below B w (((((w'.setCell ⟨g, 0, none⟩ x).setCell ⟨g, 1, none⟩ y).setCell ⟨g, 2, none⟩ z).setCell ⟨g, 3, none⟩ u).setCell ⟨g, 4, none⟩ v) :=
  ((((h.setCell (p := ⟨g, 0, none⟩) hg _).setCell (p := ⟨g, 1, none⟩) hg _).setCell (p := ⟨g, 2, none⟩) hg _).setCell (p := ⟨g, 3, none⟩) hg _).setCell (p := ⟨g, 4, none⟩) hg _

theorem drew_heap (w : World) (k : Nat) : w.drew.heap[k]? = w.heap[k]? := rfl
theorem fin_tag {r : Option TK} {w : World} {t : TK} {q : Nat} (W : World) (v : Value) (us : List Value) (ok : Bool) (ho : OA q W v t.at_ us) (hb : Below w.heap.size w W) (hq : w.heap.size < q) (hr : r = (if ok = true then some t else none)) : TagP r w (.returned (.tuple #[.agg #[.int .i64 t.kd, .int .i64 t.by_, .string t.nm, v, .bool t.sh], .bool ok])) (((((W.setCell ⟨w.heap.size, 0, none⟩ (.int .i64 t.kd)).setCell ⟨w.heap.size, 1, none⟩ (.int .i64 t.by_)).setCell ⟨w.heap.size, 2, none⟩ (.string t.nm)).setCell ⟨w.heap.size, 3, none⟩ v).setCell ⟨w.heap.size, 4, none⟩ (.bool t.sh)).drew :=
  ⟨t, v, us, ok, rfl, ho.keep (by omega) (fun k hk _ => (drew_heap _ k).trans (five_other W w.heap.size k _ _ _ _ _ (by omega))), hr, (five_below hb w.heap.size _ _ _ _ _ (Nat.le_refl _)).drew⟩

structure LS (L : List UInt8) (nm : ByteArray) (w : World) (q : Nat) (R : Option (List AT × Bool)) (m : Nat) (wr : World) (f : Nat) (acc : List AT) (v : Value) (us : List Value) : Prop where
  le : m ≤ L.length
  fu : L.length < m + f
  ins : insideA f (L.drop m) acc = R
  few : acc.length ≤ m
  box : wr.rowIs q 107 5 (r5 (.int .i64 2) (.int .i64 0) (.string nm) v (.bool false))
  res : wr.rowIs w.heap.size 107 5 (r5 (.int .i64 0) (.int .i64 0) (.string ⟨#[]⟩) (.slice none 0 0) (.bool false))
  own : OA (q + 1) wr v acc us
  bl : Below w.heap.size w wr
theorem LS.below {L : List UInt8} {nm : ByteArray} {w : World} {q : Nat} {R : Option (List AT × Bool)} {m : Nat} {wr wx : World} {f : Nat} {acc : List AT} {v : Value} {us : List Value} (h : LS L nm w q R m wr f acc v us) (hb : Below wr.heap.size wr wx) : LS L nm w q R m wx f acc v us :=
  ⟨h.le, h.fu, h.ins, h.few, rowB h.box hb, rowB h.res hb, h.own.below hb, h.bl.trans (hb.mono h.bl.size)⟩

set_option maxRecDepth 100000 in
set_option maxHeartbeats 6400000 in
theorem l4Start_any (s : ByteArray) (w : World) (hs : s.size ≤ 1000) (h1 : 1 ≤ s.size) :
    Calls Tryz.prog 135 #[.string s] w fun e w' => TagP (startA s.data.toList) w e w' := by
  have hl := len_list s
  generalize hn : spn pL (s.data.toList.drop 1) = n
  have nle : 1 + n ≤ s.size := by
    have := spn_le pL (s.data.toList.drop 1)
    rw [hn, List.length_drop] at this
    omega
  have NB : nmB (s.extract 1 (1 + n)) = (decide (1 ≤ n) && decide (n ≤ 8)) := by
    rw [← hn]; exact nmB_take _ _ (by rw [ext_list, hn, show 1 + n - 1 = n from by omega])
  have SA : Hid (startA s.data.toList = if 1 ≤ n ∧ n ≤ 8 then (match insideA (s.size + 1) (s.data.toList.drop (1 + n)) [] with | none => none | some (l, sh) => some ⟨2, 0, s.extract 1 (1 + n), l, sh⟩) else none) := Hid.mk' (by
    unfold startA
    rw [hn, hl, show (⟨((s.data.toList.drop 1).take n).toArray⟩ : ByteArray) = s.extract 1 (1 + n) from ba_ext (by rw [ext_list, show 1 + n - 1 = n from by omega])]
    try rfl)
  have KN := Hid.mk' (fun w1 => l4Name_any (s.extract 1 (1 + n)) w1 (by have := ext_size s 1 (1 + n); omega))
  have HN := Hid.mk' NB
  have RR := Hid.mk' (row5 w 107 (.int .i64 0) (.int .i64 0) (.string ⟨#[]⟩) (.slice none 0 0) (.bool false))
  have B0 := Hid.mk' ((Below.refl w.heap.size w).alloc (Nat.le_refl _) (.cells #[.int .i64 0, .int .i64 0, .string ⟨#[]⟩, .slice none 0 0, .bool false] 107))
  have sz0 : (w.alloc (.cells #[.int .i64 0, .int .i64 0, .string ⟨#[]⟩, .slice none 0 0, .bool false] 107)).heap.size = w.heap.size + 1 := by simp
  have KE := l4NameEnd_any s 1 (w.alloc (.cells #[.int .i64 0, .int .i64 0, .string ⟨#[]⟩, .slice none 0 0, .bool false] 107)) (by omega) h1
  rw [hn] at KE
  have KE := Hid.mk' KE
  clear NB hn
  generalize hw0 : w.alloc (.cells #[.int .i64 0, .int .i64 0, .string ⟨#[]⟩, .slice none 0 0, .bool false] 107) = w0 at *
  have i1 : (0 : Int) ≤ 1 := by omega
  have i2 : (1 : Int) ≤ 1 + (n : Int) := by omega
  have i3 : 1 + (n : Int) ≤ (s.size : Int) := by omega
  have i4 : (1 + (n : Int)).toNat = 1 + n := by omega
  go_enter Tryz.func135, Tryz.ntmps135
  go_wp2_with fail
  clear hw0
  refine KE.out.mono ?_
  rintro e w1 ⟨rfl, rfl⟩
  clear KE
  go_wp2
  have RB := row5 w1 107 (.int .i64 2) (.int .i64 0) (.string (s.extract 1 (1 + n))) (.slice none 0 0) (.bool false)
  have N1 := below_new w1 (.cells #[.int .i64 2, .int .i64 0, .string (s.extract 1 (1 + n)), .slice none 0 0, .bool false] 107)
  have ST : Hid (LS s.data.toList (s.extract 1 (1 + n)) w w1.heap.size (insideA (s.size + 1) (s.data.toList.drop (1 + n)) []) (1 + n) (w1.alloc (.cells #[.int .i64 2, .int .i64 0, .string (s.extract 1 (1 + n)), .slice none 0 0, .bool false] 107)) (s.size + 1) [] (.slice none 0 0) []) := Hid.mk'
    ⟨by omega, by omega, rfl, Nat.zero_le _, RB, rowB RR.out N1, OA.nil _ _, B0.out.trans (N1.mono (by omega))⟩
  generalize hq : w1.heap.size = q at *
  generalize hR : insideA (s.size + 1) (s.data.toList.drop (1 + n)) [] = R at *
  clear RB N1 RR B0 hR
  generalize w1.alloc (.cells #[.int .i64 2, .int .i64 0, .string (s.extract 1 (1 + n)), .slice none 0 0, .bool false] 107) = W at *
  clear hq
  subst sz0
  go_loopw [4] (fun i wr => ∃ (m f : Nat) (acc : List AT) (v : Value) (us : List Value), i = .int .i64 m ∧ LS s.data.toList (s.extract 1 (1 + n)) w (w.heap.size + 1) R m wr f acc v us) (fun i _ => s.size - (intOf i).toNat)
  case atStart => exact ⟨1 + n, s.size + 1, [], _, [], by simp, ST.out⟩
  case round =>
    obtain ⟨m, f, acc, v, us, rfl, hLS⟩ := hrel
    clear ST
    have HL := Hid.mk' hLS
    have le := hLS.le
    rw [hl] at le
    obtain ⟨f, rfl⟩ : ∃ f', f = f' + 1 := ⟨f - 1, by have := hLS.fu; omega⟩
    clear hLS
    by_cases hlt : m < s.size
    · have cm : (m : Int) < (s.size : Int) := by omega
      have G : Hid ((s[m]'hlt).toNat = (s.data.toList.getD m 0).toNat) := Hid.mk' (get_list rfl m hlt)
      by_cases hc : (s[m]'hlt).toNat = 32
      · have hc' : ((s[m]'hlt).toNat : Int) = 32 := by omega
        generalize hb : spn pB (s.data.toList.drop m) = b
        have bge : 1 ≤ b := by
          rw [← hb, drop_cons _ m (by omega)]
          unfold spn
          rw [if_pos (by unfold pB; rw [← G.out]; simpa using hc)]; omega
        have ble : m + b ≤ s.size := by
          have := spn_le pB (s.data.toList.drop m)
          rw [hb, List.length_drop] at this
          omega
        have KB := l4Blanks_any s m wr (by omega) (by omega)
        rw [hb] at KB
        have KB := Hid.mk' KB
        have SP := Hid.mk' hb
        clear hc hb G
        by_cases hx : m + b < s.size
        · have cx : (m : Int) + b < (s.size : Int) := by omega
          have G : Hid ((s[m + b]'hx).toNat = (s.data.toList.getD (m + b) 0).toNat) := Hid.mk' (get_list rfl (m + b) hx)
          have KL := letter_any (s[m + b]'hx).toNat wr
          cases hlt2 : ltrB (s[m + b]'hx).toNat with
          | true =>
            rw [hlt2] at KL
            have KL := Hid.mk' KL
            have HC : Hid (pL (s.data.toList.getD (m + b) 0) = true) := Hid.mk' (by unfold pL; rw [← G.out]; exact hlt2)
            clear hlt2 G
            have IA := inside_attr (f := f) (acc := acc) SP.out bge (by rw [List.drop_drop, getD_drop, Nat.add_zero]; exact HC.out)
            rw [HL.out.ins, List.drop_drop] at IA
            have KA := l4Attr_any s (m + b) wr hs (by omega)
            cases hA : attrA (s.data.toList.drop (m + b)) with
            | none =>
              rw [hA] at IA KA
              have KA : Hid (Calls Tryz.prog 151 #[.string s, .int .i64 ((m + b : Nat) : Int)] wr fun e w' => e = .returned (.tuple #[.agg #[.string ⟨#[]⟩, .slice none 0 0], .int .i64 (-1)]) ∧ Below wr.heap.size wr w') := Hid.mk' KA
              have E : Hid (startA s.data.toList = none) := Hid.mk' (by rw [SA.out, IA]; split <;> rfl)
              clear IA hA
              go_wp2_with (first | go_big_skip | (go_at_call 150; refine KB.out.mono ?_; rintro e w1 ⟨rfl, hw⟩; obtain rfl := hw.symm) | (go_at_call 120; refine KL.out.mono ?_; rintro e w1 ⟨rfl, hw⟩; obtain rfl := hw.symm) | fail)
              refine KA.out.mono ?_
              rintro e w2 ⟨rfl, hb2⟩
              have L2 := HL.out.below hb2
              obtain ⟨av, cv, rfl, _⟩ := L2.own.at
              obtain ⟨c0, c1, c2, c3, c4, c5⟩ := cells5 L2.box
              obtain ⟨d0, d1, d2, d3, d4, d5⟩ := cells5 L2.res
              have f0 := L2.res.frozen 0
              have f1 := L2.res.frozen 1
              have f2 := L2.res.frozen 2
              have f3 := L2.res.frozen 3
              have f4 := L2.res.frozen 4
              have LL := Hid.mk' L2
              clear L2 hb2 KA KB KL HL
              go_wp2
              have OF := Hid.mk' (OA.keep LL.out.own (lo' := w.heap.size) (w' := ((((((w2.setCell ⟨w.heap.size, 0, none⟩ (.int .i64 2)).setCell ⟨w.heap.size, 1, none⟩ (.int .i64 0)).setCell ⟨w.heap.size, 2, none⟩ (.string (s.extract 1 (1 + n)))).setCell ⟨w.heap.size, 3, none⟩ (.slice av acc.length cv)).setCell ⟨w.heap.size, 4, none⟩ (.bool false)).alloc (.cells #[.string ⟨#[]⟩, .slice none 0 0] 139))) (by omega) (fun k hk hl => by rw [Deep.blk_alloc_lt _ _ _ (by simpa using hl)]; exact five_other w2 w.heap.size k _ _ _ _ _ (by omega)))
              refine bodyPost_ret (v := .tuple #[.agg #[.int .i64 2, .int .i64 0, .string (s.extract 1 (1 + n)), .slice av acc.length cv, .bool false], .bool false]) (by simp [results, Tryz.results135, go_sem, *]) rfl ⟨⟨2, 0, s.extract 1 (1 + n), acc, false⟩, _, us, false, rfl, OF.out, by rw [E.out]; rfl, (five_below LL.out.bl w.heap.size _ _ _ _ _ (Nat.le_refl _)).alloc (by simpa using LL.out.bl.size) _⟩
            | some r =>
              obtain ⟨at1, k2⟩ := r
              rw [hA] at IA KA
              have IA : R = insideA f (s.data.toList.drop (m + (b + k2))) (addA acc at1) := by rw [IA]; show insideA f (List.drop (b + k2) (List.drop m _)) _ = _; rw [List.drop_drop]
              have KA : Hid (Calls Tryz.prog 151 #[.string s, .int .i64 ((m + b : Nat) : Int)] wr fun e w' => (∃ u, e = .returned (.tuple #[.agg #[.string at1.nm, u], .int .i64 ((m + b + k2 : Nat) : Int)]) ∧ w'.ownsRow wr.heap.size 5 1 u at1.vl.length (bcs at1.vl)) ∧ Below wr.heap.size wr w') := Hid.mk' KA
              obtain ⟨k3, kle, nm8, szl⟩ := attrA_len hA
              rw [List.length_drop, hl] at kle szl
              have IE := Hid.mk' IA
              clear IA hA
              go_wp2_with (first | go_big_skip | (go_at_call 150; refine KB.out.mono ?_; rintro e w1 ⟨rfl, hw⟩; obtain rfl := hw.symm) | (go_at_call 120; refine KL.out.mono ?_; rintro e w1 ⟨rfl, hw⟩; obtain rfl := hw.symm) | fail)
              refine KA.out.mono ?_
              rintro e w2 ⟨⟨u, rfl, hu⟩, hb2⟩
              obtain ⟨au, cu, rfl⟩ := own_shape hu
              have N2 := below_new w2 (.cells #[.string at1.nm, .slice au at1.vl.length cu] 139)
              have M2 := hb2.trans (N2.mono hb2.size)
              have L2 := HL.out.below M2
              have AR := Hid.mk' (rowp2 w2 139 (.string at1.nm) (.slice au at1.vl.length cu))
              have HU := Hid.mk' (own_of hu (Nat.le_refl _) (fun k e _ => N2.block k (hu.lt k e).2))
              obtain ⟨av, cv, rfl, hAA⟩ := L2.own.at
              have KH := Hid.mk' (l4Has_any av cv acc at1.nm _ hAA (by have := L2.few; omega))
              obtain ⟨c0, c1, c2, c3, c4, c5⟩ := cells5 L2.box
              have fc3 := L2.box.frozen 3
              have LL := Hid.mk' L2
              have sz2 : wr.heap.size ≤ w2.heap.size := hb2.size
              have HM := Hid.mk' M2
              clear L2 hb2 KA KB KL hAA N2 M2 hu
              generalize hW2 : w2.alloc (.cells #[.string at1.nm, .slice au at1.vl.length cu] 139) = W2 at *
              have sW : w2.heap.size < W2.heap.size := by rw [← hW2]; simp
              obtain ⟨g0, g1, g2⟩ := cells2 AR.out
              by_cases hp : 0 ≤ posK acc at1.nm
              · have np : ¬ posK acc at1.nm < 0 := by omega
                have E : Hid (addA acc at1 = acc) := Hid.mk' (by unfold addA; rw [if_pos hp])
                go_wp2_with fail
                clear hW2
                refine KH.out.mono ?_
                rintro e w3 ⟨rfl, hw⟩
                obtain rfl := hw.symm
                go_wp2
                go_roundw
                case rel => exact ⟨m + b + k2, f, acc, _, us, by first | rfl | simp, ⟨by omega, by have := HL.out.fu; omega, by rw [IE.out, E.out, show m + (b + k2) = m + b + k2 from by omega], by have := LL.out.few; omega, LL.out.box, LL.out.res, LL.out.own, LL.out.bl⟩⟩
                case measure => simp [intOf]; omega
              · have np : posK acc at1.nm < 0 := by omega
                have E : Hid (addA acc at1 = acc ++ [at1]) := Hid.mk' (by unfold addA; rw [if_neg hp])
                have few := LL.out.few
                go_wp2_with fail
                clear hW2
                refine KH.out.mono ?_
                rintro e w3 ⟨rfl, hw⟩
                obtain rfl := hw.symm
                have sq : w.heap.size + 1 + 1 ≤ W2.heap.size := by omega
                have NN := below_new W2 (.cells #[.string at1.nm, .slice au at1.vl.length cu] 139)
                have OWN := Hid.mk' (LL.out.own.below NN)
                have BN := Hid.mk' NN
                clear NN
                go_wp2_with (at_builtin; refine wpList_append_at _ rfl (.tmp 54) (.tmp 56) 105 rfl (w.heap.size + 1 + 1) 139 (.agg #[.string ⟨#[]⟩, .slice none 0 0]) 2 40 Tryz.underlying105 Tryz.info139 rfl (by decide) _ _ _ rfl OWN.out.row _ 1 _ [.string at1.nm, .slice au at1.vl.length cu] rfl rfl (.inr ⟨_, rfl, one_attr W2 _ _ _ _ rfl⟩) (by simp [Value.oneCell']) (by unfold maxLen; omega) (by omega) (by simp; omega) ?_; intro v' w4 ho hgr hat; obtain ⟨a4, q4, rfl⟩ := own_shape ho; have hx4 := grown_cells (B := w.heap.size + 1 + 1) hgr (own_lo OWN.out.row) (by simp; omega); have hy4 := grown_frozen (B := w.heap.size + 1 + 1) hgr (own_lo OWN.out.row) (by simp; omega); have y4 := hgr.size; simp at y4; have j4 : w.heap.size + 1 < w4.heap.size := (by omega))
                have swr : w.heap.size + 1 + 1 ≤ wr.heap.size := HL.out.box.lt
                have hrow : ∀ k, (Value.slice av acc.length cv).ownBlock = some k → w.heap.size + 1 + 1 ≤ k := own_lo OWN.out.row
                have szN := BN.out.size
                have b4 : ∀ k, k < w.heap.size + 1 + 1 → w4.heap[k]? = W2.heap[k]? := fun k hk => by
                  rw [hgr.block k (by omega) (fun e => by have := hrow k e.symm; omega), BN.out.block k (by omega)]
                have OA4 := HL.out.own.app (HM.out.trans (BN.out.mono HM.out.size)) ((OB.of_own HU.out).1.below BN.out) swr (fun k e => (HU.out.lt k e).1) ho hgr hat
                have L4 : Hid (LS s.data.toList (s.extract 1 (1 + n)) w (w.heap.size + 1) R (m + b + k2) (w4.setCell ⟨w.heap.size + 1, 3, none⟩ (.slice a4 (acc.length + 1) q4)) f (acc ++ [at1]) (.slice a4 (acc.length + 1) q4) (us ++ [.slice au at1.vl.length cu])) := Hid.mk'
                  ⟨by omega, by have := HL.out.fu; omega, by rw [IE.out, E.out, show m + (b + k2) = m + b + k2 from by omega], by rw [List.length_append]; simp; omega,
                    ((LL.out.box.of_block (b4 _ (by omega))).set 3 _).congr (fun j hj => by
                      by_cases h : j = 3
                      · subst h; rfl
                      · rw [if_neg h]; unfold r5; rw [if_neg h]; simp [h]),
                    (LL.out.res.of_block (b4 _ (by omega))).setOther (a := ⟨w.heap.size + 1, 3, none⟩) (by simp) _,
                    OA4.keep (Nat.le_refl _) (fun k hk _ => Deep.blk_setCell_other _ _ _ _ (by simp; omega)),
                    ((LL.out.bl.trans (BN.out.mono LL.out.bl.size)).grown hgr (by omega) (fun k e => by have := hrow k e; omega)).setCell (p := ⟨w.heap.size + 1, 3, none⟩) (by simp) _⟩
                exact ⟨⟨m + b + k2, f, acc ++ [at1], _, us ++ [.slice au at1.vl.length cu], by simp, L4.out⟩, by simp [intOf]; omega⟩
          | false =>
            rw [hlt2] at KL
            have KL := Hid.mk' KL
            have L2 : Hid (LS s.data.toList (s.extract 1 (1 + n)) w (w.heap.size + 1) R (m + b) wr (f + 1) acc v us) := Hid.mk' ⟨by omega, by have := HL.out.fu; omega, by
              rw [← HL.out.ins, ← List.drop_drop, ← SP.out]; exact inside_blank (by rw [List.drop_drop, getD_drop, Nat.add_zero, SP.out]; unfold pL; rw [← G.out]; exact hlt2), by have := HL.out.few; omega, HL.out.box, HL.out.res, HL.out.own, HL.out.bl⟩
            clear hlt2 G
            go_wp2_with (first | go_big_skip | (go_at_call 150; refine KB.out.mono ?_; rintro e w1 ⟨rfl, rfl⟩) | (go_at_call 120; refine KL.out.mono ?_; rintro e w1 ⟨rfl, rfl⟩))
            go_roundw
            case rel => exact ⟨m + b, f + 1, acc, v, us, by simp, L2.out⟩
            case measure => simp [intOf]; omega
        · have cx : ¬ (m : Int) + b < (s.size : Int) := by omega
          have L2 : Hid (LS s.data.toList (s.extract 1 (1 + n)) w (w.heap.size + 1) R (m + b) wr (f + 1) acc v us) := Hid.mk' ⟨by omega, by have := HL.out.fu; omega, by
            rw [← HL.out.ins, ← List.drop_drop, ← SP.out]; exact inside_blank (by rw [List.drop_drop, getD_drop, Nat.add_zero, SP.out]; rw [show s.data.toList.getD (m + b) 0 = 0 from by simp [List.getD_eq_getElem?_getD, List.getElem?_eq_none (show s.data.toList.length ≤ m + b by omega)]]; rfl), by have := HL.out.few; omega, HL.out.box, HL.out.res, HL.out.own, HL.out.bl⟩
          go_wp2_with (first | go_big_skip | (go_at_call 150; refine KB.out.mono ?_; rintro e w1 ⟨rfl, rfl⟩))
          go_roundw
          case rel => exact ⟨m + b, f + 1, acc, v, us, by simp, L2.out⟩
          case measure => simp [intOf]; omega
      · have hc' : ¬ ((s[m]'hlt).toNat : Int) = 32 := by omega
        have IE := inside_end (f := f) (acc := acc) (L := s.data.toList) (k := m) (by unfold pB; rw [← G.out]; simpa using hc)
        rw [HL.out.ins, ← G.out, hl] at IE
        have wr1 : IntKind.i64.wrap ((s.size : Int) - 1) = (s.size : Int) - 1 := by rw [IntKind.wrap_i64]; omega
        obtain ⟨av, cv, rfl, _⟩ := HL.out.own.at
        obtain ⟨c0, c1, c2, c3, c4, c5⟩ := cells5 HL.out.box
        obtain ⟨d0, d1, d2, d3, d4, d5⟩ := cells5 HL.out.res
        have f0 := HL.out.res.frozen 0
        have f1 := HL.out.res.frozen 1
        have f2 := HL.out.res.frozen 2
        have f3 := HL.out.res.frozen 3
        have f4 := HL.out.res.frozen 4
        have fb := HL.out.box.frozen 4
        by_cases h47 : (s[m]'hlt).toNat = 47
        · rw [if_pos h47] at IE
          have z47 : ((s[m]'hlt).toNat : Int) = 47 := by omega
          have z47' : (((s[m]'hlt).toNat : Int) == 47) = true := by simpa using z47
          have IE : R = if m + 1 + 1 = s.size ∧ (s.data.toList.getD (m + 1) 0).toNat = 62 then some (acc, true) else none := IE
          have BX : Hid ((wr.setCell ⟨w.heap.size + 1, 4, none⟩ (.bool true)).rowIs (w.heap.size + 1) 107 5 (r5 (.int .i64 2) (.int .i64 0) (.string (s.extract 1 (1 + n))) (.slice av acc.length cv) (.bool true))) := Hid.mk' ((HL.out.box.set 4 (.bool true)).congr (fun j hj => by
            by_cases h : j = 4
            · subst h; rfl
            · rw [if_neg h]; unfold r5; split; rfl; split; rfl; split; rfl; split; rfl; omega))
          have RS := Hid.mk' (HL.out.res.setOther (a := ⟨w.heap.size + 1, 4, none⟩) (by simp) (.bool true))
          have OW := Hid.mk' (HL.out.own.keep (w' := wr.setCell ⟨w.heap.size + 1, 4, none⟩ (.bool true)) (Nat.le_refl _) (fun k hk _ => Deep.blk_setCell_other _ _ _ _ (by simp; omega)))
          have BW := Hid.mk' (HL.out.bl.setCell (p := ⟨w.heap.size + 1, 4, none⟩) (by simp) (.bool true))
          clear hc h47 G
          by_cases hnm : 1 ≤ n ∧ n ≤ 8
          rotate_left
          · have E : Hid (startA s.data.toList = none) := Hid.mk' (by rw [SA.out, if_neg hnm])
            have KV : Hid (∀ w1, Calls Tryz.prog 134 #[.string (s.extract 1 (1 + n))] w1 fun e w' => e = .returned (.bool false) ∧ w' = w1) := Hid.mk' (fun w1 => by have := KN.out w1; rw [HN.out, show (decide (1 ≤ n) && decide (n ≤ 8)) = false from by simp; omega] at this; exact this)
            clear IE KN HN
            go_wp2_with go_big_skip
            clear c0 c1 c2 c3 c4 c5 d0 d1 d2 d3 d4 d5 f0 f1 f2 f3 f4 fb
            generalize wr.setCell ⟨w.heap.size + 1, 4, none⟩ (.bool true) = w5 at *
            obtain ⟨c0, c1, c2, c3, c4, c5⟩ := cells5 BX.out
            obtain ⟨d0, d1, d2, d3, d4, d5⟩ := cells5 RS.out
            have f0 := RS.out.frozen 0
            have f1 := RS.out.frozen 1
            have f2 := RS.out.frozen 2
            have f3 := RS.out.frozen 3
            have f4 := RS.out.frozen 4
            refine wp_region_held_drew (S := (fun w' => w'.cell? ⟨w.heap.size + 1, 0, none⟩ = some (.int .i64 2) ∧ w'.cell? ⟨w.heap.size + 1, 1, none⟩ = some (.int .i64 0) ∧ w'.cell? ⟨w.heap.size + 1, 2, none⟩ = some (.string (s.extract 1 (1 + n))) ∧ w'.cell? ⟨w.heap.size + 1, 3, none⟩ = some (.slice av acc.length cv) ∧ w'.cell? ⟨w.heap.size + 1, 4, none⟩ = some (.bool true))) (by kernel_rfl) (by simp [*]) (fun hHeld => ?_)
            refine tkY 0 ?_
            refine tkY 1 ?_
            refine tkY 2 ?_
            refine wpAnyH_ready (rs := [3]) (by kernel_rfl) (by simp) ?_
            refine AllReadyH.cons (o := ⟨_, _, _, _, _, _⟩) rfl (fun K hK => ?_) AllReadyH.nil
            go_simp
            go_at_call 134; refine (KV.out _).mono ?_; rintro e w6 ⟨rfl, hw⟩; obtain rfl := hw.symm
            refine hK.out _ _ (by (try dsimp only); simp [*]) (fun hHeld => ?_)
            clear hK K
            try clear hx hy
            try simp only [Act.put, zA, zB, zC]
            refine tkY 4 ?_
            refine tkU 5 ?_
            refine tkU 6 ?_
            refine tkU 7 ?_
            refine tkU 8 ?_
            refine tkU 9 ?_
            refine tkY 10 ?_
            refine tkY 11 ?_
            refine tkU 12 ?_
            refine tkU 13 ?_
            refine tkU 14 ?_
            refine tkU 15 ?_
            refine tkY 16 ?_
            refine wpAnyH_ready (rs := [17]) (by kernel_rfl) (by simp) ?_
            refine AllReadyH.cons (o := ⟨_, _, _, _, _, _⟩) rfl (fun K hK => ?_) AllReadyH.nil
            go_simp
            skip
            refine hK.out _ _ (by (try dsimp only); simp [go_sem, c0, c1, c2, c3, c4]) (fun hHeld => ?_)
            clear hK K
            try clear hx hy
            try simp only [Act.put, zA, zB, zC]
            refine tkY 18 ?_
            refine wpAnyH_done (by kernel_rfl) ?_ _
            go_wp2
            refine bodyPost_ret (v := .tuple #[.agg #[.int .i64 2, .int .i64 0, .string (s.extract 1 (1 + n)), .slice av acc.length cv, .bool true], .bool false]) ?_ rfl ?_
            · simp [results, Tryz.results135, go_sem, d0, d1, d2, d3, d4, d5]
            · exact fin_tag (t := ⟨2, 0, s.extract 1 (1 + n), acc, true⟩) w5 _ us false OW.out BW.out (by omega) (by rw [E.out]; rfl)
          have KV : Hid (∀ w1, Calls Tryz.prog 134 #[.string (s.extract 1 (1 + n))] w1 fun e w' => e = .returned (.bool true) ∧ w' = w1) := Hid.mk' (fun w1 => by have := KN.out w1; rw [HN.out, show (decide (1 ≤ n) && decide (n ≤ 8)) = true from by simp; omega] at this; exact this)
          clear KN HN
          by_cases hP : m + 1 + 1 = s.size
          rotate_left
          · have E : Hid (startA s.data.toList = none) := Hid.mk' (by rw [SA.out, if_pos hnm, IE, if_neg (fun h => hP h.1)])
            have e1 : (((m : Int) + 1) == (s.size : Int) - 1) = false := by simp; omega
            clear IE
            go_wp2_with go_big_skip
            clear c0 c1 c2 c3 c4 c5 d0 d1 d2 d3 d4 d5 f0 f1 f2 f3 f4 fb
            generalize wr.setCell ⟨w.heap.size + 1, 4, none⟩ (.bool true) = w5 at *
            obtain ⟨c0, c1, c2, c3, c4, c5⟩ := cells5 BX.out
            obtain ⟨d0, d1, d2, d3, d4, d5⟩ := cells5 RS.out
            have f0 := RS.out.frozen 0
            have f1 := RS.out.frozen 1
            have f2 := RS.out.frozen 2
            have f3 := RS.out.frozen 3
            have f4 := RS.out.frozen 4
            refine wp_region_held_drew (S := (fun w' => w'.cell? ⟨w.heap.size + 1, 0, none⟩ = some (.int .i64 2) ∧ w'.cell? ⟨w.heap.size + 1, 1, none⟩ = some (.int .i64 0) ∧ w'.cell? ⟨w.heap.size + 1, 2, none⟩ = some (.string (s.extract 1 (1 + n))) ∧ w'.cell? ⟨w.heap.size + 1, 3, none⟩ = some (.slice av acc.length cv) ∧ w'.cell? ⟨w.heap.size + 1, 4, none⟩ = some (.bool true))) (by kernel_rfl) (by simp [*]) (fun hHeld => ?_)
            refine tkY 0 ?_
            refine tkY 1 ?_
            refine tkY 2 ?_
            refine wpAnyH_ready (rs := [3]) (by kernel_rfl) (by simp) ?_
            refine AllReadyH.cons (o := ⟨_, _, _, _, _, _⟩) rfl (fun K hK => ?_) AllReadyH.nil
            go_simp
            go_at_call 134; refine (KV.out _).mono ?_; rintro e w6 ⟨rfl, hw⟩; obtain rfl := hw.symm
            refine hK.out _ _ (by (try dsimp only); simp [*]) (fun hHeld => ?_)
            clear hK K
            try clear hx hy
            try simp only [Act.put, zA, zB, zC]
            refine tkY 4 ?_
            refine tkY 5 ?_
            refine tkY 6 ?_
            refine tkY 7 ?_
            refine tkY 8 ?_
            refine tkY 9 ?_
            refine tkY 10 ?_
            refine tkY 11 ?_
            refine tkU 12 ?_
            refine tkU 13 ?_
            refine tkU 14 ?_
            refine tkU 15 ?_
            refine tkY 16 ?_
            refine wpAnyH_ready (rs := [17]) (by kernel_rfl) (by simp) ?_
            refine AllReadyH.cons (o := ⟨_, _, _, _, _, _⟩) rfl (fun K hK => ?_) AllReadyH.nil
            go_simp
            skip
            refine hK.out _ _ (by (try dsimp only); simp [go_sem, c0, c1, c2, c3, c4]) (fun hHeld => ?_)
            clear hK K
            try clear hx hy
            try simp only [Act.put, zA, zB, zC]
            refine tkY 18 ?_
            refine wpAnyH_done (by kernel_rfl) ?_ _
            go_wp2
            refine bodyPost_ret (v := .tuple #[.agg #[.int .i64 2, .int .i64 0, .string (s.extract 1 (1 + n)), .slice av acc.length cv, .bool true], .bool false]) ?_ rfl ?_
            · simp [results, Tryz.results135, go_sem, d0, d1, d2, d3, d4, d5]
            · exact fin_tag (t := ⟨2, 0, s.extract 1 (1 + n), acc, true⟩) w5 _ us false OW.out BW.out (by omega) (by rw [E.out]; rfl)
          have hPl : m + 1 < s.size := by omega
          have e1 : (((m : Int) + 1) == (s.size : Int) - 1) = true := by simp; omega
          have GP : Hid ((s[m + 1]'hPl).toNat = (s.data.toList.getD (m + 1) 0).toNat) := Hid.mk' (get_list rfl (m + 1) hPl)
          have cP : ((m : Int) + 1) < (s.size : Int) := by omega
          have cP0 : (0 : Int) ≤ ((m : Int) + 1) := by omega
          have cPn : ((m : Int) + 1).toNat = m + 1 := by omega
          by_cases h62 : (s[m + 1]'hPl).toNat = 62
          · have E : Hid (startA s.data.toList = some ⟨2, 0, s.extract 1 (1 + n), acc, true⟩) := Hid.mk' (by rw [SA.out, if_pos hnm, IE, if_pos ⟨hP, by rw [← GP.out]; exact h62⟩])
            have e2 : (((s[m + 1]'hPl).toNat : Int) == 62) = true := by simp; omega
            clear IE GP h62
            go_wp2_with go_big_skip
            clear c0 c1 c2 c3 c4 c5 d0 d1 d2 d3 d4 d5 f0 f1 f2 f3 f4 fb
            generalize wr.setCell ⟨w.heap.size + 1, 4, none⟩ (.bool true) = w5 at *
            obtain ⟨c0, c1, c2, c3, c4, c5⟩ := cells5 BX.out
            obtain ⟨d0, d1, d2, d3, d4, d5⟩ := cells5 RS.out
            have f0 := RS.out.frozen 0
            have f1 := RS.out.frozen 1
            have f2 := RS.out.frozen 2
            have f3 := RS.out.frozen 3
            have f4 := RS.out.frozen 4
            refine wp_region_held_drew (S := (fun w' => w'.cell? ⟨w.heap.size + 1, 0, none⟩ = some (.int .i64 2) ∧ w'.cell? ⟨w.heap.size + 1, 1, none⟩ = some (.int .i64 0) ∧ w'.cell? ⟨w.heap.size + 1, 2, none⟩ = some (.string (s.extract 1 (1 + n))) ∧ w'.cell? ⟨w.heap.size + 1, 3, none⟩ = some (.slice av acc.length cv) ∧ w'.cell? ⟨w.heap.size + 1, 4, none⟩ = some (.bool true))) (by kernel_rfl) (by simp [*]) (fun hHeld => ?_)
            refine tkY 0 ?_
            refine tkY 1 ?_
            refine tkY 2 ?_
            refine wpAnyH_ready (rs := [3]) (by kernel_rfl) (by simp) ?_
            refine AllReadyH.cons (o := ⟨_, _, _, _, _, _⟩) rfl (fun K hK => ?_) AllReadyH.nil
            go_simp
            go_at_call 134; refine (KV.out _).mono ?_; rintro e w6 ⟨rfl, hw⟩; obtain rfl := hw.symm
            refine hK.out _ _ (by (try dsimp only); simp [*]) (fun hHeld => ?_)
            clear hK K
            try clear hx hy
            try simp only [Act.put, zA, zB, zC]
            refine tkY 4 ?_
            refine tkY 5 ?_
            refine tkY 6 ?_
            refine tkY 7 ?_
            refine tkY 8 ?_
            refine tkY 9 ?_
            refine tkY 10 ?_
            refine tkY 11 ?_
            refine tkY 12 ?_
            refine tkY 13 ?_
            refine tkY 14 ?_
            refine tkY 15 ?_
            refine tkY 16 ?_
            refine wpAnyH_ready (rs := [17]) (by kernel_rfl) (by simp) ?_
            refine AllReadyH.cons (o := ⟨_, _, _, _, _, _⟩) rfl (fun K hK => ?_) AllReadyH.nil
            go_simp
            skip
            refine hK.out _ _ (by (try dsimp only); simp [go_sem, c0, c1, c2, c3, c4]) (fun hHeld => ?_)
            clear hK K
            try clear hx hy
            try simp only [Act.put, zA, zB, zC]
            refine tkY 18 ?_
            refine wpAnyH_done (by kernel_rfl) ?_ _
            go_wp2
            refine bodyPost_ret (v := .tuple #[.agg #[.int .i64 2, .int .i64 0, .string (s.extract 1 (1 + n)), .slice av acc.length cv, .bool true], .bool true]) ?_ rfl ?_
            · simp [results, Tryz.results135, go_sem, d0, d1, d2, d3, d4, d5]
            · exact fin_tag (t := ⟨2, 0, s.extract 1 (1 + n), acc, true⟩) w5 _ us true OW.out BW.out (by omega) (by rw [E.out]; rfl)
          · have E : Hid (startA s.data.toList = none) := Hid.mk' (by rw [SA.out, if_pos hnm, IE, if_neg (fun h => h62 (by rw [GP.out]; exact h.2))])
            have e2 : (((s[m + 1]'hPl).toNat : Int) == 62) = false := by simp; omega
            clear IE GP h62
            go_wp2_with go_big_skip
            clear c0 c1 c2 c3 c4 c5 d0 d1 d2 d3 d4 d5 f0 f1 f2 f3 f4 fb
            generalize wr.setCell ⟨w.heap.size + 1, 4, none⟩ (.bool true) = w5 at *
            obtain ⟨c0, c1, c2, c3, c4, c5⟩ := cells5 BX.out
            obtain ⟨d0, d1, d2, d3, d4, d5⟩ := cells5 RS.out
            have f0 := RS.out.frozen 0
            have f1 := RS.out.frozen 1
            have f2 := RS.out.frozen 2
            have f3 := RS.out.frozen 3
            have f4 := RS.out.frozen 4
            refine wp_region_held_drew (S := (fun w' => w'.cell? ⟨w.heap.size + 1, 0, none⟩ = some (.int .i64 2) ∧ w'.cell? ⟨w.heap.size + 1, 1, none⟩ = some (.int .i64 0) ∧ w'.cell? ⟨w.heap.size + 1, 2, none⟩ = some (.string (s.extract 1 (1 + n))) ∧ w'.cell? ⟨w.heap.size + 1, 3, none⟩ = some (.slice av acc.length cv) ∧ w'.cell? ⟨w.heap.size + 1, 4, none⟩ = some (.bool true))) (by kernel_rfl) (by simp [*]) (fun hHeld => ?_)
            refine tkY 0 ?_
            refine tkY 1 ?_
            refine tkY 2 ?_
            refine wpAnyH_ready (rs := [3]) (by kernel_rfl) (by simp) ?_
            refine AllReadyH.cons (o := ⟨_, _, _, _, _, _⟩) rfl (fun K hK => ?_) AllReadyH.nil
            go_simp
            go_at_call 134; refine (KV.out _).mono ?_; rintro e w6 ⟨rfl, hw⟩; obtain rfl := hw.symm
            refine hK.out _ _ (by (try dsimp only); simp [*]) (fun hHeld => ?_)
            clear hK K
            try clear hx hy
            try simp only [Act.put, zA, zB, zC]
            refine tkY 4 ?_
            refine tkY 5 ?_
            refine tkY 6 ?_
            refine tkY 7 ?_
            refine tkY 8 ?_
            refine tkY 9 ?_
            refine tkY 10 ?_
            refine tkY 11 ?_
            refine tkY 12 ?_
            refine tkY 13 ?_
            refine tkY 14 ?_
            refine tkY 15 ?_
            refine tkY 16 ?_
            refine wpAnyH_ready (rs := [17]) (by kernel_rfl) (by simp) ?_
            refine AllReadyH.cons (o := ⟨_, _, _, _, _, _⟩) rfl (fun K hK => ?_) AllReadyH.nil
            go_simp
            skip
            refine hK.out _ _ (by (try dsimp only); simp [go_sem, c0, c1, c2, c3, c4]) (fun hHeld => ?_)
            clear hK K
            try clear hx hy
            try simp only [Act.put, zA, zB, zC]
            refine tkY 18 ?_
            refine wpAnyH_done (by kernel_rfl) ?_ _
            go_wp2
            refine bodyPost_ret (v := .tuple #[.agg #[.int .i64 2, .int .i64 0, .string (s.extract 1 (1 + n)), .slice av acc.length cv, .bool true], .bool false]) ?_ rfl ?_
            · simp [results, Tryz.results135, go_sem, d0, d1, d2, d3, d4, d5]
            · exact fin_tag (t := ⟨2, 0, s.extract 1 (1 + n), acc, true⟩) w5 _ us false OW.out BW.out (by omega) (by rw [E.out]; rfl)
        · rw [if_neg h47] at IE
          have z47 : ¬ ((s[m]'hlt).toNat : Int) = 47 := by omega
          have z47' : (((s[m]'hlt).toNat : Int) == 47) = false := by simpa using z47
          have IE : R = if m + 1 = s.size ∧ (s.data.toList.getD m 0).toNat = 62 then some (acc, false) else none := by rw [← G.out]; exact IE
          have OW := Hid.mk' HL.out.own
          have BW := Hid.mk' HL.out.bl
          clear hc h47 G
          by_cases hnm : 1 ≤ n ∧ n ≤ 8
          rotate_left
          · have E : Hid (startA s.data.toList = none) := Hid.mk' (by rw [SA.out, if_neg hnm])
            have KV : Hid (∀ w1, Calls Tryz.prog 134 #[.string (s.extract 1 (1 + n))] w1 fun e w' => e = .returned (.bool false) ∧ w' = w1) := Hid.mk' (fun w1 => by have := KN.out w1; rw [HN.out, show (decide (1 ≤ n) && decide (n ≤ 8)) = false from by simp; omega] at this; exact this)
            clear IE KN HN
            go_wp2_with go_big_skip
            refine wp_region_held_drew (S := (fun w' => w'.cell? ⟨w.heap.size + 1, 0, none⟩ = some (.int .i64 2) ∧ w'.cell? ⟨w.heap.size + 1, 1, none⟩ = some (.int .i64 0) ∧ w'.cell? ⟨w.heap.size + 1, 2, none⟩ = some (.string (s.extract 1 (1 + n))) ∧ w'.cell? ⟨w.heap.size + 1, 3, none⟩ = some (.slice av acc.length cv) ∧ w'.cell? ⟨w.heap.size + 1, 4, none⟩ = some (.bool false))) (by kernel_rfl) (by simp [*]) (fun hHeld => ?_)
            refine tkY 0 ?_
            refine tkY 1 ?_
            refine tkY 2 ?_
            refine wpAnyH_ready (rs := [3]) (by kernel_rfl) (by simp) ?_
            refine AllReadyH.cons (o := ⟨_, _, _, _, _, _⟩) rfl (fun K hK => ?_) AllReadyH.nil
            go_simp
            go_at_call 134; refine (KV.out _).mono ?_; rintro e w6 ⟨rfl, hw⟩; obtain rfl := hw.symm
            refine hK.out _ _ (by (try dsimp only); simp [*]) (fun hHeld => ?_)
            clear hK K
            try clear hx hy
            try simp only [Act.put, zA, zB, zC]
            refine tkY 4 ?_
            refine tkU 5 ?_
            refine tkU 6 ?_
            refine tkU 7 ?_
            refine tkU 8 ?_
            refine tkU 9 ?_
            refine tkY 10 ?_
            refine tkY 11 ?_
            refine tkU 12 ?_
            refine tkU 13 ?_
            refine tkU 14 ?_
            refine tkU 15 ?_
            refine tkY 16 ?_
            refine wpAnyH_ready (rs := [17]) (by kernel_rfl) (by simp) ?_
            refine AllReadyH.cons (o := ⟨_, _, _, _, _, _⟩) rfl (fun K hK => ?_) AllReadyH.nil
            go_simp
            skip
            refine hK.out _ _ (by (try dsimp only); simp [go_sem, c0, c1, c2, c3, c4]) (fun hHeld => ?_)
            clear hK K
            try clear hx hy
            try simp only [Act.put, zA, zB, zC]
            refine tkY 18 ?_
            refine wpAnyH_done (by kernel_rfl) ?_ _
            go_wp2
            refine bodyPost_ret (v := .tuple #[.agg #[.int .i64 2, .int .i64 0, .string (s.extract 1 (1 + n)), .slice av acc.length cv, .bool false], .bool false]) ?_ rfl ?_
            · simp [results, Tryz.results135, go_sem, d0, d1, d2, d3, d4, d5]
            · exact fin_tag (t := ⟨2, 0, s.extract 1 (1 + n), acc, false⟩) wr _ us false OW.out BW.out (by omega) (by rw [E.out]; rfl)
          have KV : Hid (∀ w1, Calls Tryz.prog 134 #[.string (s.extract 1 (1 + n))] w1 fun e w' => e = .returned (.bool true) ∧ w' = w1) := Hid.mk' (fun w1 => by have := KN.out w1; rw [HN.out, show (decide (1 ≤ n) && decide (n ≤ 8)) = true from by simp; omega] at this; exact this)
          clear KN HN
          by_cases hP : m + 1 = s.size
          rotate_left
          · have E : Hid (startA s.data.toList = none) := Hid.mk' (by rw [SA.out, if_pos hnm, IE, if_neg (fun h => hP h.1)])
            have e1 : ((m : Int) == (s.size : Int) - 1) = false := by simp; omega
            clear IE
            go_wp2_with go_big_skip
            refine wp_region_held_drew (S := (fun w' => w'.cell? ⟨w.heap.size + 1, 0, none⟩ = some (.int .i64 2) ∧ w'.cell? ⟨w.heap.size + 1, 1, none⟩ = some (.int .i64 0) ∧ w'.cell? ⟨w.heap.size + 1, 2, none⟩ = some (.string (s.extract 1 (1 + n))) ∧ w'.cell? ⟨w.heap.size + 1, 3, none⟩ = some (.slice av acc.length cv) ∧ w'.cell? ⟨w.heap.size + 1, 4, none⟩ = some (.bool false))) (by kernel_rfl) (by simp [*]) (fun hHeld => ?_)
            refine tkY 0 ?_
            refine tkY 1 ?_
            refine tkY 2 ?_
            refine wpAnyH_ready (rs := [3]) (by kernel_rfl) (by simp) ?_
            refine AllReadyH.cons (o := ⟨_, _, _, _, _, _⟩) rfl (fun K hK => ?_) AllReadyH.nil
            go_simp
            go_at_call 134; refine (KV.out _).mono ?_; rintro e w6 ⟨rfl, hw⟩; obtain rfl := hw.symm
            refine hK.out _ _ (by (try dsimp only); simp [*]) (fun hHeld => ?_)
            clear hK K
            try clear hx hy
            try simp only [Act.put, zA, zB, zC]
            refine tkY 4 ?_
            refine tkY 5 ?_
            refine tkY 6 ?_
            refine tkY 7 ?_
            refine tkY 8 ?_
            refine tkY 9 ?_
            refine tkY 10 ?_
            refine tkY 11 ?_
            refine tkU 12 ?_
            refine tkU 13 ?_
            refine tkU 14 ?_
            refine tkU 15 ?_
            refine tkY 16 ?_
            refine wpAnyH_ready (rs := [17]) (by kernel_rfl) (by simp) ?_
            refine AllReadyH.cons (o := ⟨_, _, _, _, _, _⟩) rfl (fun K hK => ?_) AllReadyH.nil
            go_simp
            skip
            refine hK.out _ _ (by (try dsimp only); simp [go_sem, c0, c1, c2, c3, c4]) (fun hHeld => ?_)
            clear hK K
            try clear hx hy
            try simp only [Act.put, zA, zB, zC]
            refine tkY 18 ?_
            refine wpAnyH_done (by kernel_rfl) ?_ _
            go_wp2
            refine bodyPost_ret (v := .tuple #[.agg #[.int .i64 2, .int .i64 0, .string (s.extract 1 (1 + n)), .slice av acc.length cv, .bool false], .bool false]) ?_ rfl ?_
            · simp [results, Tryz.results135, go_sem, d0, d1, d2, d3, d4, d5]
            · exact fin_tag (t := ⟨2, 0, s.extract 1 (1 + n), acc, false⟩) wr _ us false OW.out BW.out (by omega) (by rw [E.out]; rfl)
          have hPl : m < s.size := by omega
          have e1 : ((m : Int) == (s.size : Int) - 1) = true := by simp; omega
          have GP : Hid ((s[m]'hPl).toNat = (s.data.toList.getD (m) 0).toNat) := Hid.mk' (get_list rfl (m) hPl)
          have cP : (m : Int) < (s.size : Int) := by omega
          have cP0 : (0 : Int) ≤ (m : Int) := by omega
          by_cases h62 : (s[m]'hPl).toNat = 62
          · have E : Hid (startA s.data.toList = some ⟨2, 0, s.extract 1 (1 + n), acc, false⟩) := Hid.mk' (by rw [SA.out, if_pos hnm, IE, if_pos ⟨hP, by rw [← GP.out]; exact h62⟩])
            have e2 : (((s[m]'hPl).toNat : Int) == 62) = true := by simp; omega
            clear IE GP h62
            go_wp2_with go_big_skip
            refine wp_region_held_drew (S := (fun w' => w'.cell? ⟨w.heap.size + 1, 0, none⟩ = some (.int .i64 2) ∧ w'.cell? ⟨w.heap.size + 1, 1, none⟩ = some (.int .i64 0) ∧ w'.cell? ⟨w.heap.size + 1, 2, none⟩ = some (.string (s.extract 1 (1 + n))) ∧ w'.cell? ⟨w.heap.size + 1, 3, none⟩ = some (.slice av acc.length cv) ∧ w'.cell? ⟨w.heap.size + 1, 4, none⟩ = some (.bool false))) (by kernel_rfl) (by simp [*]) (fun hHeld => ?_)
            refine tkY 0 ?_
            refine tkY 1 ?_
            refine tkY 2 ?_
            refine wpAnyH_ready (rs := [3]) (by kernel_rfl) (by simp) ?_
            refine AllReadyH.cons (o := ⟨_, _, _, _, _, _⟩) rfl (fun K hK => ?_) AllReadyH.nil
            go_simp
            go_at_call 134; refine (KV.out _).mono ?_; rintro e w6 ⟨rfl, hw⟩; obtain rfl := hw.symm
            refine hK.out _ _ (by (try dsimp only); simp [*]) (fun hHeld => ?_)
            clear hK K
            try clear hx hy
            try simp only [Act.put, zA, zB, zC]
            refine tkY 4 ?_
            refine tkY 5 ?_
            refine tkY 6 ?_
            refine tkY 7 ?_
            refine tkY 8 ?_
            refine tkY 9 ?_
            refine tkY 10 ?_
            refine tkY 11 ?_
            refine tkY 12 ?_
            refine tkY 13 ?_
            refine tkY 14 ?_
            refine tkY 15 ?_
            refine tkY 16 ?_
            refine wpAnyH_ready (rs := [17]) (by kernel_rfl) (by simp) ?_
            refine AllReadyH.cons (o := ⟨_, _, _, _, _, _⟩) rfl (fun K hK => ?_) AllReadyH.nil
            go_simp
            skip
            refine hK.out _ _ (by (try dsimp only); simp [go_sem, c0, c1, c2, c3, c4]) (fun hHeld => ?_)
            clear hK K
            try clear hx hy
            try simp only [Act.put, zA, zB, zC]
            refine tkY 18 ?_
            refine wpAnyH_done (by kernel_rfl) ?_ _
            go_wp2
            refine bodyPost_ret (v := .tuple #[.agg #[.int .i64 2, .int .i64 0, .string (s.extract 1 (1 + n)), .slice av acc.length cv, .bool false], .bool true]) ?_ rfl ?_
            · simp [results, Tryz.results135, go_sem, d0, d1, d2, d3, d4, d5]
            · exact fin_tag (t := ⟨2, 0, s.extract 1 (1 + n), acc, false⟩) wr _ us true OW.out BW.out (by omega) (by rw [E.out]; rfl)
          · have E : Hid (startA s.data.toList = none) := Hid.mk' (by rw [SA.out, if_pos hnm, IE, if_neg (fun h => h62 (by rw [GP.out]; exact h.2))])
            have e2 : (((s[m]'hPl).toNat : Int) == 62) = false := by simp; omega
            clear IE GP h62
            go_wp2_with go_big_skip
            refine wp_region_held_drew (S := (fun w' => w'.cell? ⟨w.heap.size + 1, 0, none⟩ = some (.int .i64 2) ∧ w'.cell? ⟨w.heap.size + 1, 1, none⟩ = some (.int .i64 0) ∧ w'.cell? ⟨w.heap.size + 1, 2, none⟩ = some (.string (s.extract 1 (1 + n))) ∧ w'.cell? ⟨w.heap.size + 1, 3, none⟩ = some (.slice av acc.length cv) ∧ w'.cell? ⟨w.heap.size + 1, 4, none⟩ = some (.bool false))) (by kernel_rfl) (by simp [*]) (fun hHeld => ?_)
            refine tkY 0 ?_
            refine tkY 1 ?_
            refine tkY 2 ?_
            refine wpAnyH_ready (rs := [3]) (by kernel_rfl) (by simp) ?_
            refine AllReadyH.cons (o := ⟨_, _, _, _, _, _⟩) rfl (fun K hK => ?_) AllReadyH.nil
            go_simp
            go_at_call 134; refine (KV.out _).mono ?_; rintro e w6 ⟨rfl, hw⟩; obtain rfl := hw.symm
            refine hK.out _ _ (by (try dsimp only); simp [*]) (fun hHeld => ?_)
            clear hK K
            try clear hx hy
            try simp only [Act.put, zA, zB, zC]
            refine tkY 4 ?_
            refine tkY 5 ?_
            refine tkY 6 ?_
            refine tkY 7 ?_
            refine tkY 8 ?_
            refine tkY 9 ?_
            refine tkY 10 ?_
            refine tkY 11 ?_
            refine tkY 12 ?_
            refine tkY 13 ?_
            refine tkY 14 ?_
            refine tkY 15 ?_
            refine tkY 16 ?_
            refine wpAnyH_ready (rs := [17]) (by kernel_rfl) (by simp) ?_
            refine AllReadyH.cons (o := ⟨_, _, _, _, _, _⟩) rfl (fun K hK => ?_) AllReadyH.nil
            go_simp
            skip
            refine hK.out _ _ (by (try dsimp only); simp [go_sem, c0, c1, c2, c3, c4]) (fun hHeld => ?_)
            clear hK K
            try clear hx hy
            try simp only [Act.put, zA, zB, zC]
            refine tkY 18 ?_
            refine wpAnyH_done (by kernel_rfl) ?_ _
            go_wp2
            refine bodyPost_ret (v := .tuple #[.agg #[.int .i64 2, .int .i64 0, .string (s.extract 1 (1 + n)), .slice av acc.length cv, .bool false], .bool false]) ?_ rfl ?_
            · simp [results, Tryz.results135, go_sem, d0, d1, d2, d3, d4, d5]
            · exact fin_tag (t := ⟨2, 0, s.extract 1 (1 + n), acc, false⟩) wr _ us false OW.out BW.out (by omega) (by rw [E.out]; rfl)
    · have cm : ¬ (m : Int) < (s.size : Int) := by omega
      have e0 : s.data.toList.getD m 0 = 0 := by simp [List.getD_eq_getElem?_getD, List.getElem?_eq_none (show s.data.toList.length ≤ m by omega)]
      have IE := inside_end (f := f) (acc := acc) (L := s.data.toList) (k := m) (by rw [e0]; rfl)
      rw [HL.out.ins, if_neg (by rw [e0]; decide), hl] at IE
      have wr1 : IntKind.i64.wrap ((s.size : Int) - 1) = (s.size : Int) - 1 := by rw [IntKind.wrap_i64]; omega
      have OW := Hid.mk' HL.out.own
      have BW := Hid.mk' HL.out.bl
      obtain ⟨av, cv, rfl, _⟩ := HL.out.own.at
      obtain ⟨c0, c1, c2, c3, c4, c5⟩ := cells5 HL.out.box
      obtain ⟨d0, d1, d2, d3, d4, d5⟩ := cells5 HL.out.res
      have f0 := HL.out.res.frozen 0
      have f1 := HL.out.res.frozen 1
      have f2 := HL.out.res.frozen 2
      have f3 := HL.out.res.frozen 3
      have f4 := HL.out.res.frozen 4
      have fb := HL.out.box.frozen 4
      by_cases hnm : 1 ≤ n ∧ n ≤ 8
      rotate_left
      · have E : Hid (startA s.data.toList = none) := Hid.mk' (by rw [SA.out, if_neg hnm])
        have KV : Hid (∀ w1, Calls Tryz.prog 134 #[.string (s.extract 1 (1 + n))] w1 fun e w' => e = .returned (.bool false) ∧ w' = w1) := Hid.mk' (fun w1 => by have := KN.out w1; rw [HN.out, show (decide (1 ≤ n) && decide (n ≤ 8)) = false from by simp; omega] at this; exact this)
        clear IE KN HN
        go_wp2_with go_big_skip
        refine wp_region_held_drew (S := (fun w' => w'.cell? ⟨w.heap.size + 1, 0, none⟩ = some (.int .i64 2) ∧ w'.cell? ⟨w.heap.size + 1, 1, none⟩ = some (.int .i64 0) ∧ w'.cell? ⟨w.heap.size + 1, 2, none⟩ = some (.string (s.extract 1 (1 + n))) ∧ w'.cell? ⟨w.heap.size + 1, 3, none⟩ = some (.slice av acc.length cv) ∧ w'.cell? ⟨w.heap.size + 1, 4, none⟩ = some (.bool false))) (by kernel_rfl) (by simp [*]) (fun hHeld => ?_)
        refine tkY 0 ?_
        refine tkY 1 ?_
        refine tkY 2 ?_
        refine wpAnyH_ready (rs := [3]) (by kernel_rfl) (by simp) ?_
        refine AllReadyH.cons (o := ⟨_, _, _, _, _, _⟩) rfl (fun K hK => ?_) AllReadyH.nil
        go_simp
        go_at_call 134; refine (KV.out _).mono ?_; rintro e w6 ⟨rfl, hw⟩; obtain rfl := hw.symm
        refine hK.out _ _ (by (try dsimp only); simp [*]) (fun hHeld => ?_)
        clear hK K
        try clear hx hy
        try simp only [Act.put, zA, zB, zC]
        refine tkY 4 ?_
        refine tkU 5 ?_
        refine tkU 6 ?_
        refine tkU 7 ?_
        refine tkU 8 ?_
        refine tkU 9 ?_
        refine tkY 10 ?_
        refine tkY 11 ?_
        refine tkU 12 ?_
        refine tkU 13 ?_
        refine tkU 14 ?_
        refine tkU 15 ?_
        refine tkY 16 ?_
        refine wpAnyH_ready (rs := [17]) (by kernel_rfl) (by simp) ?_
        refine AllReadyH.cons (o := ⟨_, _, _, _, _, _⟩) rfl (fun K hK => ?_) AllReadyH.nil
        go_simp
        skip
        refine hK.out _ _ (by (try dsimp only); simp [go_sem, c0, c1, c2, c3, c4]) (fun hHeld => ?_)
        clear hK K
        try clear hx hy
        try simp only [Act.put, zA, zB, zC]
        refine tkY 18 ?_
        refine wpAnyH_done (by kernel_rfl) ?_ _
        go_wp2
        refine bodyPost_ret (v := .tuple #[.agg #[.int .i64 2, .int .i64 0, .string (s.extract 1 (1 + n)), .slice av acc.length cv, .bool false], .bool false]) ?_ rfl ?_
        · simp [results, Tryz.results135, go_sem, d0, d1, d2, d3, d4, d5]
        · exact fin_tag (t := ⟨2, 0, s.extract 1 (1 + n), acc, false⟩) wr _ us false OW.out BW.out (by omega) (by rw [E.out]; rfl)
      have KV : Hid (∀ w1, Calls Tryz.prog 134 #[.string (s.extract 1 (1 + n))] w1 fun e w' => e = .returned (.bool true) ∧ w' = w1) := Hid.mk' (fun w1 => by have := KN.out w1; rw [HN.out, show (decide (1 ≤ n) && decide (n ≤ 8)) = true from by simp; omega] at this; exact this)
      clear KN HN
      have E : Hid (startA s.data.toList = none) := Hid.mk' (by rw [SA.out, if_pos hnm, IE, if_neg (fun h => by omega)])
      have e1 : ((m : Int) == (s.size : Int) - 1) = false := by simp; omega
      clear IE
      go_wp2_with go_big_skip
      refine wp_region_held_drew (S := (fun w' => w'.cell? ⟨w.heap.size + 1, 0, none⟩ = some (.int .i64 2) ∧ w'.cell? ⟨w.heap.size + 1, 1, none⟩ = some (.int .i64 0) ∧ w'.cell? ⟨w.heap.size + 1, 2, none⟩ = some (.string (s.extract 1 (1 + n))) ∧ w'.cell? ⟨w.heap.size + 1, 3, none⟩ = some (.slice av acc.length cv) ∧ w'.cell? ⟨w.heap.size + 1, 4, none⟩ = some (.bool false))) (by kernel_rfl) (by simp [*]) (fun hHeld => ?_)
      refine tkY 0 ?_
      refine tkY 1 ?_
      refine tkY 2 ?_
      refine wpAnyH_ready (rs := [3]) (by kernel_rfl) (by simp) ?_
      refine AllReadyH.cons (o := ⟨_, _, _, _, _, _⟩) rfl (fun K hK => ?_) AllReadyH.nil
      go_simp
      go_at_call 134; refine (KV.out _).mono ?_; rintro e w6 ⟨rfl, hw⟩; obtain rfl := hw.symm
      refine hK.out _ _ (by (try dsimp only); simp [*]) (fun hHeld => ?_)
      clear hK K
      try clear hx hy
      try simp only [Act.put, zA, zB, zC]
      refine tkY 4 ?_
      refine tkY 5 ?_
      refine tkY 6 ?_
      refine tkY 7 ?_
      refine tkY 8 ?_
      refine tkY 9 ?_
      refine tkY 10 ?_
      refine tkY 11 ?_
      refine tkU 12 ?_
      refine tkU 13 ?_
      refine tkU 14 ?_
      refine tkU 15 ?_
      refine tkY 16 ?_
      refine wpAnyH_ready (rs := [17]) (by kernel_rfl) (by simp) ?_
      refine AllReadyH.cons (o := ⟨_, _, _, _, _, _⟩) rfl (fun K hK => ?_) AllReadyH.nil
      go_simp
      skip
      refine hK.out _ _ (by (try dsimp only); simp [go_sem, c0, c1, c2, c3, c4]) (fun hHeld => ?_)
      clear hK K
      try clear hx hy
      try simp only [Act.put, zA, zB, zC]
      refine tkY 18 ?_
      refine wpAnyH_done (by kernel_rfl) ?_ _
      go_wp2
      refine bodyPost_ret (v := .tuple #[.agg #[.int .i64 2, .int .i64 0, .string (s.extract 1 (1 + n)), .slice av acc.length cv, .bool false], .bool false]) ?_ rfl ?_
      · simp [results, Tryz.results135, go_sem, d0, d1, d2, d3, d4, d5]
      · exact fin_tag (t := ⟨2, 0, s.extract 1 (1 + n), acc, false⟩) wr _ us false OW.out BW.out (by omega) (by rw [E.out]; rfl)

end Go.Proofs.YtlimgcmhidooaaaGreatDoor
