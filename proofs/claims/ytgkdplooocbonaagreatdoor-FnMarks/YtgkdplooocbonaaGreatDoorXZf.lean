/- The program's reader of tags: its first steps. -/
import Derived.Test.YtgkdplooocbonaaGreatDoorXV6
import Derived.Test.YtgkdplooocbonaaGreatDoorXShp
namespace Go.Proofs.YtgkdplooocbonaaGreatDoor
open Go.RowKit
set_option linter.unusedVariables false
set_option linter.unusedSimpArgs false

/-- The reader's box: what is still to be read. -/
def RL (g : Nat) (L : List UInt8) (w : World) : Prop := w.rowIs g 80 1 (fun _ => .string ⟨L.toArray⟩)
theorem RL.cell {g : Nat} {L : List UInt8} {w : World} (h : RL g L w) : w.cell? ⟨g, 0, none⟩ = some (.string ⟨L.toArray⟩) ∧ w.frozen? ⟨g, 0, none⟩ = false ∧ g < w.heap.size := ⟨World.rowIs.cell h (by decide), World.rowIs.frozen h 0, World.rowIs.lt h⟩
theorem RL.put {g : Nat} {L : List UInt8} {w : World} (h : RL g L w) (M : List UInt8) : RL g M (w.setCell ⟨g, 0, none⟩ (.string ⟨M.toArray⟩)) ∧ KeptIn g (g + 1) w (w.setCell ⟨g, 0, none⟩ (.string ⟨M.toArray⟩)) :=
  ⟨World.rowIs.congr (World.rowIs.set h 0 _) (fun j hj => by rw [if_pos (by omega)]), (KeptIn.refl _ _ w).setCell (p := ⟨g, 0, none⟩) (Nat.le_refl _) (Nat.lt_succ_self _) _⟩
theorem RL.below {g : Nat} {L : List UInt8} {w w' : World} (h : RL g L w) (hb : Below w.heap.size w w') : RL g L w' := rowB h hb

theorem list_data (L : List UInt8) : (⟨L.toArray⟩ : ByteArray).data.toList = L := by simp
theorem list_size (L : List UInt8) : (⟨L.toArray⟩ : ByteArray).size = L.length := by simp [ByteArray.size]

theorem skip_any (g : Nat) (L p : List UInt8) (w : World) (h : RL g L w) :
    Calls Tryz.prog 55 #[.pointer (some ⟨g, 0, none⟩), .string ⟨p.toArray⟩] w fun e w' => e = .returned (.bool (Lib.hasPrefix L p)) ∧ RL g (Lib.trimPrefix L p) w' ∧ KeptIn g (g + 1) w w' := by
  obtain ⟨c0, c1, c2⟩ := h.cell
  have K := Tryz.strings_CutPrefix ⟨L.toArray⟩ ⟨p.toArray⟩ w
  rw [list_data, list_data] at K
  have K := Hid.mk' K
  have P := Hid.mk' (h.put (Lib.trimPrefix L p))
  clear h
  go_enter Tryz.func55, Tryz.ntmps55
  go_wp2_with fail
  refine K.out.mono ?_
  rintro e w1 ⟨rfl, hw⟩
  obtain rfl := hw.symm
  go_wp2
  go_ret
  exact ⟨rfl, P.out.1, P.out.2⟩

/-- What a panic carries: the variable errNoTag. -/
def NoTag (tp : TypeId) (p : Value) (w : World) : Prop := w.cell? ⟨1, 0, none⟩ = some (.iface tp p)
abbrev boom (tp : TypeId) (p : Value) : Ending := .panicked [{ v := .iface tp p, recovered := false }]

theorem take_yes (g : Nat) (L p : List UInt8) (w : World) (h : RL g L w) (hp : Lib.hasPrefix L p = true) :
    Calls Tryz.prog 54 #[.pointer (some ⟨g, 0, none⟩), .string ⟨p.toArray⟩] w fun e w' => e = .returned (.tuple #[]) ∧ RL g (Lib.trimPrefix L p) w' ∧ KeptIn g (g + 1) w w' := by
  have K := skip_any g L p w h
  rw [hp] at K
  have K := Hid.mk' K
  clear h
  go_enter Tryz.func54, Tryz.ntmps54
  go_wp2_with fail
  refine K.out.mono ?_
  rintro e w1 ⟨rfl, h1, h2⟩
  have H1 := Hid.mk' h1
  have H2 := Hid.mk' h2
  clear h1 h2
  go_wp2
  go_end0
  exact ⟨rfl, H1.out, H2.out⟩

theorem take_no (g : Nat) (L p : List UInt8) (w : World) (tp : TypeId) (pv : Value) (h : RL g L w) (hp : Lib.hasPrefix L p = false) (hg : 1 < g) (ht : NoTag tp pv w) :
    Calls Tryz.prog 54 #[.pointer (some ⟨g, 0, none⟩), .string ⟨p.toArray⟩] w fun e w' => e = boom tp pv ∧ KeptIn g (g + 1) w w' := by
  have K := skip_any g L p w h
  rw [hp] at K
  have K := Hid.mk' K
  have lt := h.cell.2.2
  clear h
  go_enter Tryz.func54, Tryz.ntmps54
  go_wp2_with fail
  refine K.out.mono ?_
  rintro e w1 ⟨rfl, h1, h2⟩
  have t1 : w1.cell? ⟨1, 0, none⟩ = some (.iface tp pv) := (World.cell?_of_block (h2.block _ (show 1 < w.heap.size by omega) (.inl hg))).trans ht
  have H2 := Hid.mk' h2
  clear h1 h2
  go_wp2
  exact ⟨rfl, rfl, H2.out⟩

theorem pre1 (L : List UInt8) (c : UInt8) : Lib.hasPrefix L [c] = decide (L ≠ [] ∧ L.getD 0 0 = c) := by
  cases L with
  | nil => rfl
  | cons a r =>
    by_cases h : a = c
    · subst h; simp [Lib.hasPrefix]
    · have e : (c == a) = false := by simpa using Ne.symm h
      simp [Lib.hasPrefix, List.isPrefixOf, e, h]
theorem trim1 (L : List UInt8) (p : List UInt8) (h : Lib.hasPrefix L p = true) : Lib.trimPrefix L p = L.drop p.length := by unfold Lib.trimPrefix; rw [if_pos h]
theorem trim0 (L : List UInt8) (p : List UInt8) (h : Lib.hasPrefix L p = false) : Lib.trimPrefix L p = L := by unfold Lib.trimPrefix; rw [if_neg (by rw [h]; decide)]

set_option maxHeartbeats 400000 in
theorem skipBlanks_any (g : Nat) (L : List UInt8) (w : World) (h : RL g L w) :
    Calls Tryz.prog 57 #[.pointer (some ⟨g, 0, none⟩)] w fun e w' => e = .returned (.bool (decide (0 < spn pB L))) ∧ RL g (L.drop (spn pB L)) w' ∧ KeptIn g (g + 1) w w' := by
  have HR := Hid.mk' h
  clear h
  go_enter Tryz.func57, Tryz.ntmps57
  go_wp2
  go_loopw [3] (fun x wr => ∃ k : Nat, k ≤ L.length ∧ x = .bool (decide (0 < k)) ∧ (∀ j, j < k → pB (L.getD j 0) = true) ∧ RL g (L.drop k) wr ∧ KeptIn g (g + 1) w wr) (fun _ wr => match wr.cell? ⟨g, 0, none⟩ with | some (.string s) => s.size | _ => 0)
  case atStart => exact ⟨0, Nat.zero_le _, rfl, fun j h => absurd h (Nat.not_lt_zero _), HR.out, KeptIn.refl _ _ _⟩
  case round =>
    obtain ⟨k, hk, rfl, hn, hr, hkp⟩ := hrel
    have HN := Hid.mk' hn
    have HK := Hid.mk' hkp
    have H0 := Hid.mk' hr.cell.1
    have K := skip_any g (L.drop k) [32] wr hr
    clear hn hkp hr
    by_cases hb : k < L.length ∧ pB (L.getD k 0) = true
    · have hp : Lib.hasPrefix (L.drop k) [32] = true := by
        rw [pre1, decide_eq_true]
        refine ⟨fun e => by have := congrArg List.length e; simp at this; omega, ?_⟩
        rw [getD_drop, Nat.add_zero]
        have := hb.2
        unfold pB at this
        exact UInt8.toNat_inj.1 (by simpa using this)
      rw [trim1 _ _ hp, hp, List.drop_drop] at K
      have K := Hid.mk' K
      have kl := hb.1
      have HB := Hid.mk' hb.2
      clear hb hp
      go_wp2_with fail
      refine K.out.mono ?_
      rintro e w1 ⟨rfl, h1, h2⟩
      have H1 := Hid.mk' h1
      have HK2 := Hid.mk' (HK.out.trans h2)
      clear h1 h2
      go_wp2
      refine ⟨⟨k + 1, by omega, by simp, fun j hj => ?_, H1.out, HK2.out⟩, ?_⟩
      · by_cases e : j = k
        · subst e; exact HB.out
        · exact HN.out j (by omega)
      · rw [H1.out.cell.1, H0.out]
        show (⟨(L.drop (k + [32].length)).toArray⟩ : ByteArray).size < (⟨(L.drop k).toArray⟩ : ByteArray).size
        rw [list_size, list_size, List.length_drop, List.length_drop]
        show L.length - (k + 1) < L.length - k
        omega
    · have hs : spn pB L = k := spn_uniq pB L k hk HN.out (fun hl => by
        cases e : pB (L.getD k 0) with
        | false => rfl
        | true => exact absurd ⟨hl, e⟩ hb)
      have hp : Lib.hasPrefix (L.drop k) [32] = false := by
        rw [pre1]
        refine decide_eq_false fun h => hb ⟨?_, ?_⟩
        · exact Nat.lt_of_not_le fun hl => h.1 (List.drop_of_length_le hl)
        · have := h.2
          rw [getD_drop, Nat.add_zero] at this
          rw [this]; rfl
      rw [trim0 _ _ hp, hp] at K
      have K := Hid.mk' K
      have HS := Hid.mk' hs
      clear hb hp hs
      go_wp2_with fail
      refine K.out.mono ?_
      rintro e w1 ⟨rfl, h1, h2⟩
      have H1 := Hid.mk' h1
      have HK2 := Hid.mk' (HK.out.trans h2)
      clear h1 h2
      go_wp2
      go_ret
      refine ⟨by rw [HS.out]; rfl, by rw [HS.out]; exact H1.out, HK2.out⟩

theorem letters_spn (L : List UInt8) (w : World) (hm : L.length ≤ 1048576) :
    Calls Tryz.prog 67 #[.string ⟨L.toArray⟩] w fun e w' => e = .returned (.int .i64 (spn pL L : Nat)) ∧ w' = w := by
  refine (letters_any ⟨L.toArray⟩ w (by rw [list_size]; omega)).mono ?_
  rintro e w' ⟨n, rfl, rfl, hn, hlow, hend⟩
  rw [list_size] at hn
  have gl : ∀ k (h : k < (⟨L.toArray⟩ : ByteArray).size), ((⟨L.toArray⟩ : ByteArray)[k]'h).toNat = (L.getD k 0).toNat := fun k h => get_list (list_data L) k h
  have : spn pL L = n := spn_uniq pL L n hn (fun j hj => by
      have h := hlow j (by rw [list_size]; omega) hj
      rw [gl] at h
      exact ltrB_true h) (fun hl => by
      have h := hend (by rw [list_size]; exact hl)
      rw [gl] at h
      exact ltrB_false h)
  rw [this]
  exact ⟨rfl, rfl⟩

theorem ext_ahead (L : List UInt8) (n : Nat) : (⟨L.toArray⟩ : ByteArray).extract 0 n = ⟨(L.take n).toArray⟩ := ba_ext (by rw [ext_list, list_data, list_data]; simp)
theorem ext_behind (L : List UInt8) (n : Nat) : (⟨L.toArray⟩ : ByteArray).extract n (⟨L.toArray⟩ : ByteArray).size = ⟨(L.drop n).toArray⟩ := ba_ext (by rw [tail_list, list_data, list_data])

theorem ext_behind' (L : List UInt8) (n : Nat) : (⟨L.toArray⟩ : ByteArray).extract n L.length = ⟨(L.drop n).toArray⟩ := by rw [← ext_behind, list_size]

theorem clone_any (s : ByteArray) (w : World) (hs : s.size ≤ 1048576) :
    Calls Tryz.prog 69 #[.string s] w fun e w' => e = .returned (.string s) ∧ Below w.heap.size w w' := by
  go_enter Tryz.func69, Tryz.ntmps69
  go_wp2_with fail
  refine (Tryz.stringslite_Clone s w (by omega)).mono ?_
  rintro e w1 ⟨rfl, hb⟩
  have HB := Hid.mk' hb
  clear hb
  go_wp2
  go_ret
  exact ⟨rfl, HB.out⟩

set_option maxHeartbeats 400000 in
theorem takeName_yes (g : Nat) (L : List UInt8) (w : World) (h : RL g L w) (hL : L.length ≤ 1000) (hn : 1 ≤ spn pL L ∧ spn pL L ≤ 8) :
    Calls Tryz.prog 56 #[.pointer (some ⟨g, 0, none⟩)] w fun e w' => e = .returned (.string ⟨(L.take (spn pL L)).toArray⟩) ∧ RL g (L.drop (spn pL L)) w' ∧ KeptIn g (g + 1) w w' := by
  obtain ⟨c0, c1, c2⟩ := h.cell
  have K1 := Hid.mk' (letters_spn L w (by omega))
  have KN := isName_any ⟨(L.take (spn pL L)).toArray⟩ w (by rw [list_size, List.length_take]; omega)
  rw [nmB_take _ L (list_data _), show (decide (1 ≤ spn pL L) && decide (spn pL L ≤ 8)) = true from by simp; omega] at KN
  have KN := Hid.mk' KN
  have P := h.put (L.drop (spn pL L))
  have KC := Hid.mk' (clone_any ⟨(L.take (spn pL L)).toArray⟩ (w.setCell ⟨g, 0, none⟩ (.string ⟨(L.drop (spn pL L)).toArray⟩)) (by rw [list_size, List.length_take]; omega))
  have P := Hid.mk' P
  have le := spn_le pL L
  have EA := ext_ahead L (spn pL L)
  have EB := ext_behind' L (spn pL L)
  have sz := list_size L
  clear h
  generalize hk : spn pL L = k at *
  have i1 : (0 : Int) ≤ (k : Int) := by omega
  have i2 : (k : Int) ≤ ((⟨L.toArray⟩ : ByteArray).size : Int) := by omega
  go_enter Tryz.func56, Tryz.ntmps56
  go_wp2_with (first | (go_at_call 67; refine K1.out.mono ?_; rintro e w1 ⟨rfl, hw⟩; obtain rfl := hw.symm) | fail)
  refine KN.out.mono ?_
  rintro e w1 ⟨rfl, hw⟩
  obtain rfl := hw.symm
  go_wp2_with fail
  generalize w.setCell ⟨g, 0, none⟩ (.string ⟨(L.drop k).toArray⟩) = w2 at *
  refine KC.out.mono ?_
  rintro e w3 ⟨rfl, hb⟩
  have R3 := Hid.mk' (P.out.1.below hb)
  have K3 := Hid.mk' (P.out.2.trans (KeptIn.of_below hb))
  clear hb KC KN K1 P
  go_wp2
  go_ret
  exact ⟨rfl, R3.out, K3.out⟩

set_option maxHeartbeats 400000 in
theorem takeName_no (g : Nat) (L : List UInt8) (w : World) (tp : TypeId) (pv : Value) (h : RL g L w) (hL : L.length ≤ 1000) (hn : ¬ (1 ≤ spn pL L ∧ spn pL L ≤ 8)) (ht : NoTag tp pv w) :
    Calls Tryz.prog 56 #[.pointer (some ⟨g, 0, none⟩)] w fun e w' => e = boom tp pv ∧ KeptIn g (g + 1) w w' := by
  obtain ⟨c0, c1, c2⟩ := h.cell
  have K1 := Hid.mk' (letters_spn L w (by omega))
  have KN := isName_any ⟨(L.take (spn pL L)).toArray⟩ w (by rw [list_size, List.length_take]; omega)
  rw [nmB_take _ L (list_data _), show (decide (1 ≤ spn pL L) && decide (spn pL L ≤ 8)) = false from by simp; omega] at KN
  have KN := Hid.mk' KN
  have le := spn_le pL L
  have EA := ext_ahead L (spn pL L)
  have sz := list_size L
  have t1 : w.cell? ⟨1, 0, none⟩ = some (.iface tp pv) := ht
  clear h ht
  generalize hk : spn pL L = k at *
  have i1 : (0 : Int) ≤ (k : Int) := by omega
  have i2 : (k : Int) ≤ ((⟨L.toArray⟩ : ByteArray).size : Int) := by omega
  go_enter Tryz.func56, Tryz.ntmps56
  go_wp2_with (first | (go_at_call 67; refine K1.out.mono ?_; rintro e w1 ⟨rfl, hw⟩; obtain rfl := hw.symm) | fail)
  refine KN.out.mono ?_
  rintro e w1 ⟨rfl, hw⟩
  obtain rfl := hw.symm
  go_wp2
  exact ⟨rfl, rfl, KeptIn.refl _ _ _⟩

/-- Where a quote stands. -/
theorem index_quote : ∀ L : List UInt8, Lib.indexByte L 34 = if spn pQ L < L.length then (spn pQ L : Int) else -1
  | [] => rfl
  | c :: r => by
    unfold Lib.indexByte
    by_cases h : c = 34
    · subst h
      have : spn pQ (34 :: r) = 0 := by unfold spn; rw [if_neg (by decide)]
      rw [if_pos (by decide), this, if_pos (by simp)]; rfl
    · have hp : pQ c = true := by
        unfold pQ
        have : ¬ c.toNat = 34 := fun e => h (UInt8.toNat_inj.1 (by rw [e]; rfl))
        simp [this]
      have e : spn pQ (c :: r) = spn pQ r + 1 := by conv => lhs; unfold spn; rw [if_pos hp]
      rw [if_neg (by simpa using h), index_quote r, e]
      by_cases hl : spn pQ r < r.length
      · rw [if_pos hl, if_neg (by simp), if_pos (by simpa using hl)]; omega
      · rw [if_neg hl, if_pos (by decide), if_neg (by simpa using hl)]

set_option maxHeartbeats 400000 in
theorem cutLite_any (L : List UInt8) (w : World) (hL : L.length ≤ 1000) :
    Calls Tryz.prog 80 #[.string ⟨L.toArray⟩, .string ⟨#[34]⟩] w fun e w' => e = .returned (.tuple (if spn pQ L < L.length then #[.string ⟨(L.take (spn pQ L)).toArray⟩, .string ⟨(L.drop (spn pQ L + 1)).toArray⟩, .bool true] else #[.string ⟨L.toArray⟩, .string ⟨#[]⟩, .bool false])) ∧ Below w.heap.size w w' := by
  have K := Tryz.stringslite_Index_one ⟨L.toArray⟩ 34 w
  rw [list_data, index_quote] at K
  have sz := list_size L
  have t1 : (⟨#[34]⟩ : ByteArray).size = 1 := rfl
  by_cases h : spn pQ L < L.length
  · rw [if_pos h] at K ⊢
    have K := Hid.mk' K
    have EA := ext_ahead L (spn pQ L)
    have EB := ext_behind' L (spn pQ L + 1)
    generalize spn pQ L = k at *
    have i1 : (0 : Int) ≤ (k : Int) := by omega
    have i2 : (k : Int) ≤ ((⟨L.toArray⟩ : ByteArray).size : Int) := by omega
    have i3 : (0 : Int) ≤ (k : Int) + 1 := by omega
    have i4 : (k : Int) + 1 ≤ ((⟨L.toArray⟩ : ByteArray).size : Int) := by omega
    have i5 : ((k : Int) + 1).toNat = k + 1 := by omega
    have iw : IntKind.i64.wrap ((k : Int) + 1) = (k : Int) + 1 := by rw [IntKind.wrap_i64]; omega
    go_enter Tryz.func80, Tryz.ntmps80
    go_wp2_with fail
    refine K.out.mono ?_
    rintro e w1 ⟨rfl, hw⟩
    obtain rfl := hw.symm
    go_wp2
    go_quiet (fail)
    go_wp2
    exact bodyPost_ret (v := .tuple #[.string ⟨(L.take k).toArray⟩, .string ⟨(L.drop (k + 1)).toArray⟩, .bool true]) (by simp [results, Tryz.results80, go_sem]) rfl ⟨rfl, below_drewN (Below.refl _ _) _⟩
  · rw [if_neg h] at K ⊢
    have K := Hid.mk' K
    go_enter Tryz.func80, Tryz.ntmps80
    go_wp2_with fail
    refine K.out.mono ?_
    rintro e w1 ⟨rfl, hw⟩
    obtain rfl := hw.symm
    go_wp2
    exact bodyPost_ret (v := .tuple #[.string ⟨L.toArray⟩, .string ⟨#[]⟩, .bool false]) (by simp [results, Tryz.results80, go_sem]) rfl ⟨rfl, Below.refl _ _⟩

theorem cut_any (L : List UInt8) (w : World) (hL : L.length ≤ 1000) :
    Calls Tryz.prog 72 #[.string ⟨L.toArray⟩, .string ⟨#[34]⟩] w fun e w' => e = .returned (.tuple (if spn pQ L < L.length then #[.string ⟨(L.take (spn pQ L)).toArray⟩, .string ⟨(L.drop (spn pQ L + 1)).toArray⟩, .bool true] else #[.string ⟨L.toArray⟩, .string ⟨#[]⟩, .bool false])) ∧ Below w.heap.size w w' := by
  have K := cutLite_any L w hL
  by_cases h : spn pQ L < L.length
  · rw [if_pos h] at K ⊢
    have K := Hid.mk' K
    go_enter Tryz.func72, Tryz.ntmps72
    go_wp2_with fail
    refine K.out.mono ?_
    rintro e w1 ⟨rfl, hb⟩
    have HB := Hid.mk' hb
    clear hb
    go_wp2
    exact bodyPost_ret (v := .tuple #[.string ⟨(L.take (spn pQ L)).toArray⟩, .string ⟨(L.drop (spn pQ L + 1)).toArray⟩, .bool true]) (by simp [results, Tryz.results72, go_sem]) rfl ⟨rfl, HB.out⟩
  · rw [if_neg h] at K ⊢
    have K := Hid.mk' K
    go_enter Tryz.func72, Tryz.ntmps72
    go_wp2_with fail
    refine K.out.mono ?_
    rintro e w1 ⟨rfl, hb⟩
    have HB := Hid.mk' hb
    clear hb
    go_wp2
    exact bodyPost_ret (v := .tuple #[.string ⟨L.toArray⟩, .string ⟨#[]⟩, .bool false]) (by simp [results, Tryz.results72, go_sem]) rfl ⟨rfl, HB.out⟩

end Go.Proofs.YtgkdplooocbonaaGreatDoor
