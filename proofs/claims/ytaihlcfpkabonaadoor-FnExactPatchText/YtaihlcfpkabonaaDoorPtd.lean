/- PatchText in the program: the list; both sides are the same. -/
import Derived.Test.YtaihlcfpkabonaaDoorPtc
namespace Go.Proofs.YtaihlcfpkabonaaDoor
open Go.RowKit Go.Joins
set_option linter.unusedVariables false
set_option linter.unusedSimpArgs false

/-- What is said of one patch. -/
def oneX (x : XK) : ByteArray := dgB x.pl.toNat ++ ⟨#[44]⟩ ++ dgB x.ct.toNat ++ ⟨#[44]⟩ ++ dgB x.hd.length

theorem onT_one (o : ByteArray) (x : XK) : onT o x = o ++ oneX x := by
  unfold onT oneX
  simp only [ByteArray.append_assoc]

theorem joinTail_snoc (sep : List UInt8) (r : List (List UInt8)) (y : List UInt8) : Lib.joinTail sep (r ++ [y]) = Lib.joinTail sep r ++ (sep ++ y) := by
  unfold Lib.joinTail
  simp
theorem join_snoc (sep : List UInt8) (xs : List (List UInt8)) (y : List UInt8) (h : xs ≠ []) : Lib.join (xs ++ [y]) sep = Lib.join xs sep ++ (sep ++ y) := by
  cases xs with
  | nil => exact absurd rfl h
  | cons x r => rw [List.cons_append, Lib.join_cons, Lib.join_cons, joinTail_snoc, List.append_assoc]

theorem take_one (l : List XK) (k : Nat) (h : k < l.length) : (l.take (k + 1)).map oneX = (l.take k).map oneX ++ [oneX (xkK l k)] := by
  rw [List.take_add_one, List.getElem?_eq_getElem h, List.map_append]
  simp [xkK, List.getD_eq_getElem?_getD, List.getElem?_eq_getElem h]

theorem txS_join (l : List XK) : ∀ k, k < l.length → (txS l (k + 1)).data.toList = Lib.join (((l.take (k + 1)).map oneX).map (·.data.toList)) [59]
  | 0, h => by
    show (onT _ _).data.toList = _
    rw [onT_one, if_neg (Nat.lt_irrefl 0), take_one l 0 h]
    simp [txS, Lib.join_one]
  | k + 1, h => by
    have ih := txS_join l k (by omega)
    show (onT _ _).data.toList = _
    rw [onT_one, if_pos (by omega), take_one l (k + 1) h, List.map_append, List.map_cons, List.map_nil, join_snoc, ← ih]
    · simp [ByteArray.data_append]
    · intro e
      have := congrArg List.length e
      rw [List.length_map, List.length_map, List.length_take] at this
      simp only [List.length_nil] at this
      omega

theorem ptT_join (l : List XK) (h : l.length ≠ 0) : (⟨(Lib.join ((l.map oneX).map (·.data.toList)) [59]).toArray⟩ : ByteArray) = ptT l := by
  unfold ptT
  rw [if_neg h]
  obtain ⟨k, hk⟩ : ∃ k, l.length = k + 1 := ⟨l.length - 1, by omega⟩
  have e := txS_join l k (by omega)
  rw [← hk, List.take_length] at e
  rw [← e]

theorem oneX_size {l : List XK} (h : SmallX l) (k : Nat) (hk : k < l.length) : (oneX (xkK l k)).size ≤ 17 := by
  obtain ⟨x, y, e1, e2, h1, h2, h3⟩ := h.2 k hk
  have := onT_size (o := ⟨#[]⟩) (x := xkK l k) (by rw [e1]; omega) (by rw [e2]; omega) h3
  rw [onT_one, ByteArray.size_append] at this
  have e : (⟨#[]⟩ : ByteArray).size = 0 := rfl
  omega

set_option maxRecDepth 100000 in
set_option maxHeartbeats 6400000 in
theorem implPT_any (a : Option Addr) (c : Nat) (l : List XK) (w : World) (ha : XsAt w a l) (hw : WideX l) (ht : TabW w) :
    Calls Tryd.prog 7 #[.slice a l.length c] w fun e w' => e = .returned (.agg #[.int .i64 (patF l 2000), .string (ptC l)]) ∧ Below w.heap.size w w' := by
  have HB := Hid.mk' (below_new w (.cells #[.int .i64 0, .string ⟨#[]⟩] 25))
  have HR := Hid.mk' (rowQ2 w 25 (.int .i64 0) (.string ⟨#[]⟩))
  have HA := Hid.mk' (ha.below HB.out)
  have HT := Hid.mk' (tab_below ht HB.out)
  generalize hW : w.alloc (.cells #[.int .i64 0, .string ⟨#[]⟩] 25) = W at *
  have hz : w.heap.size < W.heap.size := HR.out.lt
  have K := Hid.mk' (implPF_any a c l 2000 W HA.out hw)
  have EC : Hid (ptC l = if patF l 2000 = 0 then ptT l else ⟨#[]⟩) := Hid.mk' rfl
  have SM : Hid (patF l 2000 = 0 → SmallX l) := Hid.mk' pat_small
  clear ha hw ht
  generalize hF : patF l 2000 = F at *
  go_enter Tryd.func7, Tryd.ntmps7
  go_wp2_with fail
  clear hW
  refine K.out.mono ?_
  rintro e w1 ⟨rfl, hb⟩
  have HR := Hid.mk' (rowB HR.out hb)
  have HA := Hid.mk' (HA.out.below hb)
  have HT := Hid.mk' (tab_below HT.out hb)
  have HB := Hid.mk' (HB.out.trans (hb.mono HB.out.size))
  have hz := Nat.lt_of_lt_of_le hz hb.size
  clear hb K
  by_cases h0 : F = 0
  · subst h0
    have SM2 := Hid.mk' (SM.out rfl)
    clear SM hF
    rw [if_pos rfl] at EC
    have hl := SM2.out.1
    by_cases g0 : l.length = 0
    · have EP : Hid (ptT l = ⟨#[110, 111, 110, 101]⟩) := Hid.mk' (by unfold ptT; rw [if_pos g0])
      obtain ⟨x0, x1, x2⟩ := cellsQ2 HR.out
      obtain ⟨f0, f1⟩ := frzQ2 HR.out
      rw [g0]
      go_wp2
      refine bodyPost_ret (v := .agg #[.int .i64 0, .string ⟨#[110, 111, 110, 101]⟩]) (by simp [results, Tryd.results7, go_sem, *]) rfl ?_
      have KK := ((KeptIn.refl w.heap.size (w.heap.size + 1) w1).setCell (p := ⟨w.heap.size, 0, none⟩) (by simp) (by simp) (.int .i64 0)).setCell (p := ⟨w.heap.size, 1, none⟩) (by simp) (by simp) (.string ⟨#[110, 111, 110, 101]⟩)
      exact ⟨by rw [EC.out, EP.out], HB.out.trans (KK.below (Nat.le_refl _) HB.out.size)⟩
    · have hl0 : 0 < l.length := by omega
      have n0 : ((l.length : Int) == 0) = false := beq_eq_false_iff_ne.2 (by omega)
      have JN := Hid.mk' (ptT_join l g0)
      have JS := Hid.mk' (show ((l.map oneX).length) = l.length from by simp)
      have hmk := run_make_row' (P := Tryd.prog) 40 9 (.string ⟨#[]⟩) 16 Tryd.underlying40 Tryd.info9 rfl .i64 .i64 l.length (by omega) (by omega)
      have MB := below_new w1 (.cells (madeCells #[.string ⟨#[]⟩] l.length) 9)
      go_wp2
      go_loopw [5, 6, 22] (fun _ _ i wr => ∃ k : Nat, k ≤ l.length ∧ i = .int .i64 k ∧ wr.rowIs w1.heap.size 9 l.length (fun j => if j < k then .string (oneX (xkK l j)) else .string ⟨#[]⟩) ∧ Below w1.heap.size w1 wr) (fun _ _ i _ => l.length - (intOf i).toNat)
      case atStart => exact ⟨0, Nat.zero_le _, rfl, (World.rowIs_made w1 (.string ⟨#[]⟩) _ 9).congr (fun j _ => by simp), (Below.refl _ _).alloc (Nat.le_refl _) _⟩
      case round =>
        obtain ⟨k, hk, rfl, hrow, hbl⟩ := hrel
        by_cases hlt : k < l.length
        · have ci : (k : Int) < (l.length : Int) := by omega
          rcases HA.out with ha | ⟨b, o, rfl, hbs, hc⟩
          · exact absurd hlt (by rw [ha]; exact Nat.not_lt_zero _)
          obtain ⟨q1, q2, p, d, q3, _⟩ := hc k hlt
          obtain ⟨x, y, e1, e2, l1, l2, l3⟩ := SM2.out.2 k hlt
          have q1 := (hbl.cell hbs).trans q1
          have q2 := (hbl.cell hbs).trans q2
          have q3 := (hbl.cell hbs).trans q3
          have E : Hid (oneX (xkK l k) = dgB x ++ ⟨#[44]⟩ ++ dgB y ++ ⟨#[44]⟩ ++ dgB (xkK l k).hd.length) := Hid.mk' (by unfold oneX; rw [e1, e2, Int.toNat_natCast, Int.toNat_natCast])
          rw [e1] at q1
          rw [e2] at q2
          clear hc e1 e2 hmk MB
          generalize hzz : (xkK l k).hd.length = z at *
          have PB := below_new wr (.cells #[.int .i64 (x : Int), .int .i64 (y : Int), .slice p z d] 38)
          have PR := row3 wr 38 (.int .i64 (x : Int)) (.int .i64 (y : Int)) (.slice p z d)
          obtain ⟨y0, y1, y2, hgp⟩ := cells3P PR
          have HRW := Hid.mk' (rowB hrow PB)
          have HBL := Hid.mk' (hbl.trans (PB.mono hbl.size))
          have HT3 := Hid.mk' (tab_below HT.out (hbl.trans (PB.mono hbl.size)))
          have KS := Hid.mk' (said_any x y z p d (wr.alloc (.cells #[.int .i64 (x : Int), .int .i64 (y : Int), .slice p z d] 38)) HT3.out l1 l2 l3)
          clear PB PR hrow hbl hzz
          go_wp2_with fail
          refine KS.out.mono ?_
          rintro e w2 ⟨rfl, hb2⟩
          have hrow := rowB HRW.out hb2
          have hbl := HBL.out.trans (hb2.mono HBL.out.size)
          obtain ⟨v0, h2⟩ : ∃ v, w2.cell? ⟨w1.heap.size, k, none⟩ = some v := ⟨_, hrow.cell hlt⟩
          have h3 := hrow.frozen k
          rw [← E.out]
          have R1 := Hid.mk' ((hrow.set k (.string (oneX (xkK l k)))).congr (g := fun j => if j < k + 1 then .string (oneX (xkK l j)) else .string ⟨#[]⟩) (fun j _ => by
            by_cases e : j = k
            · subst e; simp
            · by_cases h : j < k
              · simp [e, h, show j < k + 1 by omega]
              · simp [e, h, show ¬ j < k + 1 by omega]))
          have R2 := Hid.mk' (hbl.setCell (p := ⟨w1.heap.size, k, none⟩) (Nat.le_refl _) (.string (oneX (xkK l k))))
          clear hrow hbl hb2 KS y0 y1 y2 q1 q2 q3 E
          generalize oneX (xkK l k) = OX at *
          go_wp2
          go_roundw
          case rel => exact ⟨k + 1, by omega, by go_num, R1.out, R2.out⟩
          case measure => simp [intOf]; omega
        · have ci : ¬ (k : Int) < (l.length : Int) := by omega
          have e : k = l.length := by omega
          subst e
          have RR := hrow.congr (g := fun j => .string (oneX (xkK l j))) (fun j hj => by rw [if_pos hj])
          have hlen : (Lib.join ((l.map oneX).map (·.data.toList)) [59]).length ≤ 140737488355328 := by
            have e := congrArg ByteArray.size JN.out
            have e2 : ptT l = txS l l.length := by unfold ptT; rw [if_neg g0]
            have e3 := txS_size SM2.out l.length (Nat.le_refl _)
            have e4 : (⟨(Lib.join ((l.map oneX).map (·.data.toList)) [59]).toArray⟩ : ByteArray).size = (Lib.join ((l.map oneX).map (·.data.toList)) [59]).length := by
              show Array.size _ = _
              simp
            rw [e2] at e
            omega
          have KJ := Tryd.strings_Join w1.heap.size 0 l.length (l.map oneX) ⟨#[59]⟩ wr (fun j x hx => by
              have hj : j < l.length := by
                have := (List.getElem?_eq_some_iff.1 hx).1
                simpa using this
              rw [Nat.zero_add, RR.cell hj]
              rw [List.getElem?_map, List.getElem?_eq_getElem hj] at hx
              simp only [Option.map_some, Option.some.injEq] at hx
              rw [← hx]
              simp [xkK, List.getD_eq_getElem?_getD, List.getElem?_eq_getElem hj]) RR.lt (by simp; omega) (by simp) hlen
          rw [show (⟨#[59]⟩ : ByteArray).data.toList = [59] from rfl, JN.out, JS.out] at KJ
          have KJ := Hid.mk' KJ
          have HBL := Hid.mk' hbl
          clear RR hrow hbl hlen hmk MB JN
          go_wp2_with fail
          refine KJ.out.mono ?_
          rintro e w2 ⟨rfl, hb2⟩
          have hbl := HBL.out.trans (hb2.mono HBL.out.size)
          obtain ⟨x0, x1, x2⟩ := cellsQ2 (rowB HR.out hbl)
          obtain ⟨f0, f1⟩ := frzQ2 (rowB HR.out hbl)
          have HB := Hid.mk' (HB.out.trans (hbl.mono HB.out.size))
          clear hbl hb2 KJ
          generalize ptT l = O at *
          go_wp2
          refine bodyPost_ret (v := .agg #[.int .i64 0, .string O]) (by simp [results, Tryd.results7, go_sem, *]) rfl ?_
          have KK := ((KeptIn.refl w.heap.size (w.heap.size + 1) w2).setCell (p := ⟨w.heap.size, 0, none⟩) (by simp) (by simp) (.int .i64 0)).setCell (p := ⟨w.heap.size, 1, none⟩) (by simp) (by simp) (.string O)
          exact ⟨by rw [EC.out], HB.out.trans (KK.below (Nat.le_refl _) HB.out.size)⟩
  · rw [if_neg h0] at EC
    obtain ⟨x0, x1, x2⟩ := cellsQ2 HR.out
    obtain ⟨f0, f1⟩ := frzQ2 HR.out
    go_wp2
    refine bodyPost_ret (v := .agg #[.int .i64 F, .string ⟨#[]⟩]) (by simp [results, Tryd.results7, go_sem, *]) rfl ?_
    have KK := ((KeptIn.refl w.heap.size (w.heap.size + 1) w1).setCell (p := ⟨w.heap.size, 0, none⟩) (by simp) (by simp) (.int .i64 F)).setCell (p := ⟨w.heap.size, 1, none⟩) (by simp) (by simp) (.string ⟨#[]⟩)
    exact ⟨by rw [EC.out], HB.out.trans (KK.below (Nat.le_refl _) HB.out.size)⟩

end Go.Proofs.YtaihlcfpkabonaaDoor
