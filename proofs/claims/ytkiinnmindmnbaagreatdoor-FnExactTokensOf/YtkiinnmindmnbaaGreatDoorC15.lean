/- The program's reader of tags: its first steps. -/
import Derived.Test.YtkiinnmindmnbaaGreatDoorC14
import Derived.Test.YtkiinnmindmnbaaGreatDoorC11
set_option linter.unusedVariables false
set_option linter.unusedSimpArgs false
namespace Go.Proofs.YtkiinnmindmnbaaGreatDoor
open Go.RowKit

def RL (g : Nat) (L : List UInt8) (w : World) : Prop := w.rowIs g 160 1 (fun _ => .string ⟨L.toArray⟩)
theorem RL.cell {g : Nat} {L : List UInt8} {w : World} (h : RL g L w) : w.cell? ⟨g, 0, none⟩ = some (.string ⟨L.toArray⟩) ∧ w.frozen? ⟨g, 0, none⟩ = false ∧ g < w.heap.size := ⟨World.rowIs.cell h (by decide), World.rowIs.frozen h 0, World.rowIs.lt h⟩
theorem RL.put {g : Nat} {L : List UInt8} {w : World} (h : RL g L w) (M : List UInt8) : RL g M (w.setCell ⟨g, 0, none⟩ (.string ⟨M.toArray⟩)) ∧ KeptIn g (g + 1) w (w.setCell ⟨g, 0, none⟩ (.string ⟨M.toArray⟩)) :=
  ⟨World.rowIs.congr (World.rowIs.set h 0 _) (fun j hj => by rw [if_pos (by omega)]), (KeptIn.refl _ _ w).setCell (p := ⟨g, 0, none⟩) (Nat.le_refl _) (Nat.lt_succ_self _) _⟩
theorem RL.below {g : Nat} {L : List UInt8} {w w' : World} (h : RL g L w) (hb : Below w.heap.size w w') : RL g L w' := rowB h hb

theorem list_data (L : List UInt8) : (⟨L.toArray⟩ : ByteArray).data.toList = L := by simp
theorem list_size (L : List UInt8) : (⟨L.toArray⟩ : ByteArray).size = L.length := by simp [ByteArray.size]

theorem skip_any (g : Nat) (L p : List UInt8) (w : World) (h : RL g L w) :
    Calls Tryz.prog 146 #[.pointer (some ⟨g, 0, none⟩), .string ⟨p.toArray⟩] w fun e w' => e = .returned (.bool (Lib.hasPrefix L p)) ∧ RL g (Lib.trimPrefix L p) w' ∧ KeptIn g (g + 1) w w' := by
  obtain ⟨c0, c1, c2⟩ := h.cell
  have K := Tryz.strings_CutPrefix ⟨L.toArray⟩ ⟨p.toArray⟩ w
  rw [list_data, list_data] at K
  have K := Hid.mk' K
  have P := Hid.mk' (h.put (Lib.trimPrefix L p))
  clear h
  go_enter Tryz.func146, Tryz.ntmps146
  go_wp2_with fail
  refine K.out.mono ?_
  rintro e w1 ⟨rfl, hw⟩
  obtain rfl := hw.symm
  go_wp2
  go_ret
  exact ⟨rfl, P.out.1, P.out.2⟩

def NoTag (tp : TypeId) (p : Value) (w : World) : Prop := w.cell? ⟨1, 0, none⟩ = some (.iface tp p)
abbrev boom (tp : TypeId) (p : Value) : Ending := .panicked [{ v := .iface tp p, recovered := false }]

theorem take_yes (g : Nat) (L p : List UInt8) (w : World) (h : RL g L w) (hp : Lib.hasPrefix L p = true) :
    Calls Tryz.prog 145 #[.pointer (some ⟨g, 0, none⟩), .string ⟨p.toArray⟩] w fun e w' => e = .returned (.tuple #[]) ∧ RL g (Lib.trimPrefix L p) w' ∧ KeptIn g (g + 1) w w' := by
  have K := skip_any g L p w h
  rw [hp] at K
  have K := Hid.mk' K
  clear h
  go_enter Tryz.func145, Tryz.ntmps145
  go_wp2_with fail
  refine K.out.mono ?_
  rintro e w1 ⟨rfl, h1, h2⟩
  have H1 := Hid.mk' h1
  have H2 := Hid.mk' h2
  clear h1 h2
  go_wp2
  go_end0
  exact ⟨rfl, H1.out, H2.out⟩

theorem take_no (g : Nat) (L p : List UInt8) (w : World) (tp : TypeId) (pv : Value) (h : RL g L w) (hp : Lib.hasPrefix L p = false) (hg : 1 < g) (ht : NoTag tp pv w) :
    Calls Tryz.prog 145 #[.pointer (some ⟨g, 0, none⟩), .string ⟨p.toArray⟩] w fun e w' => e = boom tp pv ∧ KeptIn g (g + 1) w w' := by
  have K := skip_any g L p w h
  rw [hp] at K
  have K := Hid.mk' K
  have lt := h.cell.2.2
  clear h
  go_enter Tryz.func145, Tryz.ntmps145
  go_wp2_with fail
  refine K.out.mono ?_
  rintro e w1 ⟨rfl, h1, h2⟩
  have t1 : w1.cell? ⟨1, 0, none⟩ = some (.iface tp pv) := (World.cell?_of_block (h2.block _ (show 1 < w.heap.size by omega) (.inl hg))).trans ht
  have H2 := Hid.mk' h2
  clear h1 h2
  go_wp2
  exact ⟨rfl, rfl, H2.out⟩

theorem pre1 (L : List UInt8) (c : UInt8) : Lib.hasPrefix L [c] = decide (L ≠ [] ∧ L.getD 0 0 = c) := by
  cases L with
  | nil => rfl
  | cons a r =>
    by_cases h : a = c
    · subst h; simp [Lib.hasPrefix]
    · have e : (c == a) = false := by simpa using Ne.symm h
      simp [Lib.hasPrefix, List.isPrefixOf, e, h]
theorem trim1 (L : List UInt8) (p : List UInt8) (h : Lib.hasPrefix L p = true) : Lib.trimPrefix L p = L.drop p.length := by unfold Lib.trimPrefix; rw [if_pos h]
theorem trim0 (L : List UInt8) (p : List UInt8) (h : Lib.hasPrefix L p = false) : Lib.trimPrefix L p = L := by unfold Lib.trimPrefix; rw [if_neg (by rw [h]; decide)]

set_option maxHeartbeats 400000 in
theorem skipBlanks_any (g : Nat) (L : List UInt8) (w : World) (h : RL g L w) :
    Calls Tryz.prog 148 #[.pointer (some ⟨g, 0, none⟩)] w fun e w' => e = .returned (.bool (decide (0 < spn pB L))) ∧ RL g (L.drop (spn pB L)) w' ∧ KeptIn g (g + 1) w w' := by
  have HR := Hid.mk' h
  clear h
  go_enter Tryz.func148, Tryz.ntmps148
  go_wp2
  go_loopw [3] (fun x wr => ∃ k : Nat, k ≤ L.length ∧ x = .bool (decide (0 < k)) ∧ (∀ j, j < k → pB (L.getD j 0) = true) ∧ RL g (L.drop k) wr ∧ KeptIn g (g + 1) w wr) (fun _ wr => match wr.cell? ⟨g, 0, none⟩ with | some (.string s) => s.size | _ => 0)
  case atStart => exact ⟨0, Nat.zero_le _, rfl, fun j h => absurd h (Nat.not_lt_zero _), HR.out, KeptIn.refl _ _ _⟩
  case round =>
    obtain ⟨k, hk, rfl, hn, hr, hkp⟩ := hrel
    have HN := Hid.mk' hn
    have HK := Hid.mk' hkp
    have H0 := Hid.mk' hr.cell.1
    have K := skip_any g (L.drop k) [32] wr hr
    clear hn hkp hr
    by_cases hb : k < L.length ∧ pB (L.getD k 0) = true
    · have hp : Lib.hasPrefix (L.drop k) [32] = true := by
        rw [pre1, decide_eq_true]
        refine ⟨fun e => by have := congrArg List.length e; simp at this; omega, ?_⟩
        rw [getD_drop, Nat.add_zero]
        have := hb.2
        unfold pB at this
        exact UInt8.toNat_inj.1 (by simpa using this)
      rw [trim1 _ _ hp, hp, List.drop_drop] at K
      have K := Hid.mk' K
      have kl := hb.1
      have HB := Hid.mk' hb.2
      clear hb hp
      go_wp2_with fail
      refine K.out.mono ?_
      rintro e w1 ⟨rfl, h1, h2⟩
      have H1 := Hid.mk' h1
      have HK2 := Hid.mk' (HK.out.trans h2)
      clear h1 h2
      go_wp2
      refine ⟨⟨k + 1, by omega, by simp, fun j hj => ?_, H1.out, HK2.out⟩, ?_⟩
      · by_cases e : j = k
        · subst e; exact HB.out
        · exact HN.out j (by omega)
      · rw [H1.out.cell.1, H0.out]
        show (⟨(L.drop (k + [32].length)).toArray⟩ : ByteArray).size < (⟨(L.drop k).toArray⟩ : ByteArray).size
        rw [list_size, list_size, List.length_drop, List.length_drop]
        show L.length - (k + 1) < L.length - k
        omega
    · have hs : spn pB L = k := spn_uniq pB L k hk HN.out (fun hl => by
        cases e : pB (L.getD k 0) with
        | false => rfl
        | true => exact absurd ⟨hl, e⟩ hb)
      have hp : Lib.hasPrefix (L.drop k) [32] = false := by
        rw [pre1]
        refine decide_eq_false fun h => hb ⟨?_, ?_⟩
        · exact Nat.lt_of_not_le fun hl => h.1 (List.drop_of_length_le hl)
        · have := h.2
          rw [getD_drop, Nat.add_zero] at this
          rw [this]; rfl
      rw [trim0 _ _ hp, hp] at K
      have K := Hid.mk' K
      have HS := Hid.mk' hs
      clear hb hp hs
      go_wp2_with fail
      refine K.out.mono ?_
      rintro e w1 ⟨rfl, h1, h2⟩
      have H1 := Hid.mk' h1
      have HK2 := Hid.mk' (HK.out.trans h2)
      clear h1 h2
      go_wp2
      go_ret
      refine ⟨by rw [HS.out]; rfl, by rw [HS.out]; exact H1.out, HK2.out⟩

theorem letters_spn (L : List UInt8) (w : World) (hm : L.length ≤ 1048576) :
    Calls Tryz.prog 158 #[.string ⟨L.toArray⟩] w fun e w' => e = .returned (.int .i64 (spn pL L : Nat)) ∧ w' = w := by
  refine (letters_any ⟨L.toArray⟩ w (by rw [list_size]; omega)).mono ?_
  rintro e w' ⟨n, rfl, rfl, hn, hlow, hend⟩
  rw [list_size] at hn
  have gl : ∀ k (h : k < (⟨L.toArray⟩ : ByteArray).size), ((⟨L.toArray⟩ : ByteArray)[k]'h).toNat = (L.getD k 0).toNat := fun k h => get_list (list_data L) k h
  have : spn pL L = n := spn_uniq pL L n hn (fun j hj => by
      have h := hlow j (by rw [list_size]; omega) hj
      rw [gl] at h
      exact ltrB_true h) (fun hl => by
      have h := hend (by rw [list_size]; exact hl)
      rw [gl] at h
      exact ltrB_false h)
  rw [this]
  exact ⟨rfl, rfl⟩

theorem ext_ahead (L : List UInt8) (n : Nat) : (⟨L.toArray⟩ : ByteArray).extract 0 n = ⟨(L.take n).toArray⟩ := ba_ext (by rw [ext_list, list_data, list_data]; simp)
theorem ext_behind (L : List UInt8) (n : Nat) : (⟨L.toArray⟩ : ByteArray).extract n (⟨L.toArray⟩ : ByteArray).size = ⟨(L.drop n).toArray⟩ := ba_ext (by rw [tail_list, list_data, list_data])

theorem ext_behind' (L : List UInt8) (n : Nat) : (⟨L.toArray⟩ : ByteArray).extract n L.length = ⟨(L.drop n).toArray⟩ := by rw [← ext_behind, list_size]

theorem clone_any (s : ByteArray) (w : World) (hs : s.size ≤ 1048576) :
    Calls Tryz.prog 160 #[.string s] w fun e w' => e = .returned (.string s) ∧ Below w.heap.size w w' := by
  go_enter Tryz.func160, Tryz.ntmps160
  go_wp2_with fail
  refine (Tryz.stringslite_Clone s w (by omega)).mono ?_
  rintro e w1 ⟨rfl, hb⟩
  have HB := Hid.mk' hb
  clear hb
  go_wp2
  go_ret
  exact ⟨rfl, HB.out⟩

set_option maxHeartbeats 400000 in
theorem takeName_yes (g : Nat) (L : List UInt8) (w : World) (h : RL g L w) (hL : L.length ≤ 1000) (hn : 1 ≤ spn pL L ∧ spn pL L ≤ 8) :
    Calls Tryz.prog 147 #[.pointer (some ⟨g, 0, none⟩)] w fun e w' => e = .returned (.string ⟨(L.take (spn pL L)).toArray⟩) ∧ RL g (L.drop (spn pL L)) w' ∧ KeptIn g (g + 1) w w' := by
  obtain ⟨c0, c1, c2⟩ := h.cell
  have K1 := Hid.mk' (letters_spn L w (by omega))
  have KN := isName_any ⟨(L.take (spn pL L)).toArray⟩ w (by rw [list_size, List.length_take]; omega)
  rw [nmB_take _ L (list_data _), show (decide (1 ≤ spn pL L) && decide (spn pL L ≤ 8)) = true from by simp; omega] at KN
  have KN := Hid.mk' KN
  have P := h.put (L.drop (spn pL L))
  have KC := Hid.mk' (clone_any ⟨(L.take (spn pL L)).toArray⟩ (w.setCell ⟨g, 0, none⟩ (.string ⟨(L.drop (spn pL L)).toArray⟩)) (by rw [list_size, List.length_take]; omega))
  have P := Hid.mk' P
  have le := spn_le pL L
  have EA := ext_ahead L (spn pL L)
  have EB := ext_behind' L (spn pL L)
  have sz := list_size L
  clear h
  generalize hk : spn pL L = k at *
  have i1 : (0 : Int) ≤ (k : Int) := by omega
  have i2 : (k : Int) ≤ ((⟨L.toArray⟩ : ByteArray).size : Int) := by omega
  go_enter Tryz.func147, Tryz.ntmps147
  go_wp2_with (first | (go_at_call 158; refine K1.out.mono ?_; rintro e w1 ⟨rfl, hw⟩; obtain rfl := hw.symm) | fail)
  refine KN.out.mono ?_
  rintro e w1 ⟨rfl, hw⟩
  obtain rfl := hw.symm
  go_wp2_with fail
  generalize w.setCell ⟨g, 0, none⟩ (.string ⟨(L.drop k).toArray⟩) = w2 at *
  refine KC.out.mono ?_
  rintro e w3 ⟨rfl, hb⟩
  have R3 := Hid.mk' (P.out.1.below hb)
  have K3 := Hid.mk' (P.out.2.trans (KeptIn.of_below hb))
  clear hb KC KN K1 P
  go_wp2
  go_ret
  exact ⟨rfl, R3.out, K3.out⟩

set_option maxHeartbeats 400000 in
theorem takeName_no (g : Nat) (L : List UInt8) (w : World) (tp : TypeId) (pv : Value) (h : RL g L w) (hL : L.length ≤ 1000) (hn : ¬ (1 ≤ spn pL L ∧ spn pL L ≤ 8)) (ht : NoTag tp pv w) :
    Calls Tryz.prog 147 #[.pointer (some ⟨g, 0, none⟩)] w fun e w' => e = boom tp pv ∧ KeptIn g (g + 1) w w' := by
  obtain ⟨c0, c1, c2⟩ := h.cell
  have K1 := Hid.mk' (letters_spn L w (by omega))
  have KN := isName_any ⟨(L.take (spn pL L)).toArray⟩ w (by rw [list_size, List.length_take]; omega)
  rw [nmB_take _ L (list_data _), show (decide (1 ≤ spn pL L) && decide (spn pL L ≤ 8)) = false from by simp; omega] at KN
  have KN := Hid.mk' KN
  have le := spn_le pL L
  have EA := ext_ahead L (spn pL L)
  have sz := list_size L
  have t1 : w.cell? ⟨1, 0, none⟩ = some (.iface tp pv) := ht
  clear h ht
  generalize hk : spn pL L = k at *
  have i1 : (0 : Int) ≤ (k : Int) := by omega
  have i2 : (k : Int) ≤ ((⟨L.toArray⟩ : ByteArray).size : Int) := by omega
  go_enter Tryz.func147, Tryz.ntmps147
  go_wp2_with (first | (go_at_call 158; refine K1.out.mono ?_; rintro e w1 ⟨rfl, hw⟩; obtain rfl := hw.symm) | fail)
  refine KN.out.mono ?_
  rintro e w1 ⟨rfl, hw⟩
  obtain rfl := hw.symm
  go_wp2
  exact ⟨rfl, rfl, KeptIn.refl _ _ _⟩

theorem index_quote : ∀ L : List UInt8, Lib.indexByte L 34 = if spn pQ L < L.length then (spn pQ L : Int) else -1
  | [] => rfl
  | c :: r => by
    unfold Lib.indexByte
    by_cases h : c = 34
    · subst h
      have : spn pQ (34 :: r) = 0 := by unfold spn; rw [if_neg (by decide)]
      rw [if_pos (by decide), this, if_pos (by simp)]; rfl
    · have hp : pQ c = true := by
        unfold pQ
        have : ¬ c.toNat = 34 := fun e => h (UInt8.toNat_inj.1 (by rw [e]; rfl))
        simp [this]
      have e : spn pQ (c :: r) = spn pQ r + 1 := by conv => lhs; unfold spn; rw [if_pos hp]
      rw [if_neg (by simpa using h), index_quote r, e]
      by_cases hl : spn pQ r < r.length
      · rw [if_pos hl, if_neg (by simp), if_pos (by simpa using hl)]; omega
      · rw [if_neg hl, if_pos (by decide), if_neg (by simpa using hl)]

set_option maxHeartbeats 400000 in
theorem cutLite_any (L : List UInt8) (w : World) (hL : L.length ≤ 1000) :
    Calls Tryz.prog 171 #[.string ⟨L.toArray⟩, .string ⟨#[34]⟩] w fun e w' => e = .returned (.tuple (if spn pQ L < L.length then #[.string ⟨(L.take (spn pQ L)).toArray⟩, .string ⟨(L.drop (spn pQ L + 1)).toArray⟩, .bool true] else #[.string ⟨L.toArray⟩, .string ⟨#[]⟩, .bool false])) ∧ Below w.heap.size w w' := by
  have K := Tryz.stringslite_Index_one ⟨L.toArray⟩ 34 w
  rw [list_data, index_quote] at K
  have sz := list_size L
  have t1 : (⟨#[34]⟩ : ByteArray).size = 1 := rfl
  by_cases h : spn pQ L < L.length
  · rw [if_pos h] at K ⊢
    have K := Hid.mk' K
    have EA := ext_ahead L (spn pQ L)
    have EB := ext_behind' L (spn pQ L + 1)
    generalize spn pQ L = k at *
    have i1 : (0 : Int) ≤ (k : Int) := by omega
    have i2 : (k : Int) ≤ ((⟨L.toArray⟩ : ByteArray).size : Int) := by omega
    have i3 : (0 : Int) ≤ (k : Int) + 1 := by omega
    have i4 : (k : Int) + 1 ≤ ((⟨L.toArray⟩ : ByteArray).size : Int) := by omega
    have i5 : ((k : Int) + 1).toNat = k + 1 := by omega
    have iw : IntKind.i64.wrap ((k : Int) + 1) = (k : Int) + 1 := by rw [IntKind.wrap_i64]; omega
    go_enter Tryz.func171, Tryz.ntmps171
    go_wp2_with fail
    refine K.out.mono ?_
    rintro e w1 ⟨rfl, hw⟩
    obtain rfl := hw.symm
    go_wp2
    go_quiet (fail)
    go_wp2
    exact bodyPost_ret (v := .tuple #[.string ⟨(L.take k).toArray⟩, .string ⟨(L.drop (k + 1)).toArray⟩, .bool true]) (by simp [results, Tryz.results171, go_sem]) rfl ⟨rfl, below_drewN (Below.refl _ _) _⟩
  · rw [if_neg h] at K ⊢
    have K := Hid.mk' K
    go_enter Tryz.func171, Tryz.ntmps171
    go_wp2_with fail
    refine K.out.mono ?_
    rintro e w1 ⟨rfl, hw⟩
    obtain rfl := hw.symm
    go_wp2
    exact bodyPost_ret (v := .tuple #[.string ⟨L.toArray⟩, .string ⟨#[]⟩, .bool false]) (by simp [results, Tryz.results171, go_sem]) rfl ⟨rfl, Below.refl _ _⟩

theorem cut_any (L : List UInt8) (w : World) (hL : L.length ≤ 1000) :
    Calls Tryz.prog 163 #[.string ⟨L.toArray⟩, .string ⟨#[34]⟩] w fun e w' => e = .returned (.tuple (if spn pQ L < L.length then #[.string ⟨(L.take (spn pQ L)).toArray⟩, .string ⟨(L.drop (spn pQ L + 1)).toArray⟩, .bool true] else #[.string ⟨L.toArray⟩, .string ⟨#[]⟩, .bool false])) ∧ Below w.heap.size w w' := by
  have K := cutLite_any L w hL
  by_cases h : spn pQ L < L.length
  · rw [if_pos h] at K ⊢
    have K := Hid.mk' K
    go_enter Tryz.func163, Tryz.ntmps163
    go_wp2_with fail
    refine K.out.mono ?_
    rintro e w1 ⟨rfl, hb⟩
    have HB := Hid.mk' hb
    clear hb
    go_wp2
    exact bodyPost_ret (v := .tuple #[.string ⟨(L.take (spn pQ L)).toArray⟩, .string ⟨(L.drop (spn pQ L + 1)).toArray⟩, .bool true]) (by simp [results, Tryz.results163, go_sem]) rfl ⟨rfl, HB.out⟩
  · rw [if_neg h] at K ⊢
    have K := Hid.mk' K
    go_enter Tryz.func163, Tryz.ntmps163
    go_wp2_with fail
    refine K.out.mono ?_
    rintro e w1 ⟨rfl, hb⟩
    have HB := Hid.mk' hb
    clear hb
    go_wp2
    exact bodyPost_ret (v := .tuple #[.string ⟨L.toArray⟩, .string ⟨#[]⟩, .bool false]) (by simp [results, Tryz.results163, go_sem]) rfl ⟨rfl, HB.out⟩

end Go.Proofs.YtkiinnmindmnbaaGreatDoor

namespace Go.Proofs.YtkiinnmindmnbaaGreatDoor
open Go.RowKit

structure Env (B : Nat) (tp : TypeId) (pv : Value) (w : World) : Prop where
  refs : Refs w
  errs : Errs w
  tag : NoTag tp pv w
  hB : B ≤ w.heap.size
  b0 : 1 < B
  b1 : 2 < B
  b2 : 3 < B
  b3 : 4 < B

theorem gSyn : Tryz.prog.globalNamed "strconv.ErrSyntax" = some 3 := by kernel_rfl
theorem gRan : Tryz.prog.globalNamed "strconv.ErrRange" = some 4 := by kernel_rfl

theorem var_same {w w' : World} {n : String} {g : Nat} (hg : Tryz.prog.globalNamed n = some g) (h : w'.heap[g]? = w.heap[g]?) : w'.var? Tryz.prog n = w.var? Tryz.prog n := by
  simp only [World.var?, hg, Option.bind_some]
  rw [h]

theorem Env.keep {B : Nat} {tp : TypeId} {pv : Value} {w w' : World} (h : Env B tp pv w) (hb : Below B w w') : Env B tp pv w' :=
  ⟨fun i hi => by rw [World.cell?_of_block (hb.block _ h.b1)]; exact h.refs i hi,
   ⟨by rw [var_same gSyn (hb.block _ h.b2)]; exact h.errs.1, by rw [var_same gRan (hb.block _ h.b3)]; exact h.errs.2⟩,
   (World.cell?_of_block (hb.block _ h.b0)).trans h.tag, Nat.le_trans h.hB hb.size, h.b0, h.b1, h.b2, h.b3⟩
theorem Env.kept {B lo hi : Nat} {tp : TypeId} {pv : Value} {w w' : World} (h : Env B tp pv w) (hk : KeptIn lo hi w w') (hl : B ≤ lo) : Env B tp pv w' := h.keep (hk.below hl h.hB)

theorem attrA_steps (L : List UInt8) : attrA L = (if 1 ≤ spn pL L ∧ spn pL L ≤ 8 then (if Lib.hasPrefix (L.drop (spn pL L)) [61, 34] = true then (if spn pQ (L.drop (spn pL L + 2)) < (L.drop (spn pL L + 2)).length then some (⟨⟨(L.take (spn pL L)).toArray⟩, decode ((L.drop (spn pL L + 2)).take (spn pQ (L.drop (spn pL L + 2))))⟩, spn pL L + 2 + spn pQ (L.drop (spn pL L + 2)) + 1) else none) else none) else none) := by
  unfold attrA
  generalize hn : spn pL L = n
  by_cases h1 : 1 ≤ n ∧ n ≤ 8
  · rw [if_pos h1]
    have hp : Lib.hasPrefix (L.drop n) [61, 34] = true ↔ (n + 1 < L.length ∧ (L.getD n 0).toNat = 61 ∧ (L.getD (n + 1) 0).toNat = 34) := by
      rw [prefix_iff]
      constructor
      · rintro ⟨S, h⟩
        have hl := congrArg List.length h
        simp at hl
        refine ⟨by omega, ?_, ?_⟩
        · have : (L.drop n).getD 0 0 = 61 := by rw [h]; rfl
          rw [getD_drop, Nat.add_zero] at this; rw [this]; rfl
        · have : (L.drop n).getD 1 0 = 34 := by rw [h]; rfl
          rw [getD_drop] at this; rw [this]; rfl
      · rintro ⟨a, b, c⟩
        refine ⟨L.drop (n + 2), ?_⟩
        rw [drop_cons L n (by omega), drop_cons L (n + 1) (by omega)]
        have e1 : L.getD n 0 = 61 := UInt8.toNat_inj.1 (by rw [b]; rfl)
        have e2 : L.getD (n + 1) 0 = 34 := UInt8.toNat_inj.1 (by rw [c]; rfl)
        rw [e1, e2]; rfl
    by_cases h2 : Lib.hasPrefix (L.drop n) [61, 34] = true
    · rw [if_pos h2, if_pos ⟨⟨h1, (hp.1 h2).1⟩, (hp.1 h2).2⟩]
      have hl := (hp.1 h2).1
      by_cases h3 : n + 2 + spn pQ (L.drop (n + 2)) < L.length
      · rw [if_pos h3, if_pos (by rw [List.length_drop]; omega)]
      · rw [if_neg h3, if_neg (by rw [List.length_drop]; omega)]
    · rw [if_neg h2, if_neg (fun h => h2 (hp.2 ⟨h.1.2, h.2⟩))]
  · rw [if_neg h1, if_neg (fun h => h1 h.1.1)]

def TakeP (r : Option (AT × Nat)) (g : Nat) (L : List UInt8) (tp : TypeId) (pv : Value) (w : World) (e : Ending) (w' : World) : Prop := (match r with
      | none => e = boom tp pv
      | some (a, n) => ∃ u, e = .returned (.agg #[.string a.nm, u]) ∧ OB w' u a.vl ∧ In w.heap.size w'.heap.size u ∧ RL g (L.drop n) w') ∧ KeptIn g (g + 1) w w'
theorem TakeP.no {r : Option (AT × Nat)} {g : Nat} {L : List UInt8} {tp : TypeId} {pv : Value} {w w' : World} (h : r = none) (hk : KeptIn g (g + 1) w w') : TakeP r g L tp pv w (boom tp pv) w' := by
  subst h; exact ⟨rfl, hk⟩

set_option maxRecDepth 100000 in
set_option maxHeartbeats 1600000 in
theorem takeAttr_any (B g : Nat) (L : List UInt8) (tp : TypeId) (pv : Value) (w : World) (hE : Env B tp pv w) (hg : B ≤ g) (h : RL g L w) (hL : L.length ≤ 1000) :
    Calls Tryz.prog 151 #[.pointer (some ⟨g, 0, none⟩)] w fun e w' => TakeP (attrA L) g L tp pv w e w' := by
  have hgl := h.cell.2.2
  have b0 := hE.b0
  have N0 := below_new w (.cells #[.string ⟨#[]⟩, .slice none 0 0] 120)
  have RB := Hid.mk' (rowp2 w 120 (.string ⟨#[]⟩) (.slice none 0 0))
  have K0 := Hid.mk' (KeptIn.of_below (lo := g) (hi := g + 1) N0)
  have R0 := Hid.mk' (h.below N0)
  have E0 := Hid.mk' (hE.keep (N0.mono hE.hB))
  have sz0 : (w.alloc (.cells #[.string ⟨#[]⟩, .slice none 0 0] 120)).heap.size = w.heap.size + 1 := by simp
  have ST := Hid.mk' (attrA_steps L)
  clear h hE N0
  generalize hw0 : w.alloc (.cells #[.string ⟨#[]⟩, .slice none 0 0] 120) = w0 at *
  by_cases h1 : 1 ≤ spn pL L ∧ spn pL L ≤ 8
  rotate_left
  · have E : Hid (attrA L = none) := Hid.mk' (by rw [ST.out, if_neg h1])
    have K1 := Hid.mk' (takeName_no g L w0 tp pv R0.out hL h1 E0.out.tag)
    go_enter Tryz.func151, Tryz.ntmps151
    go_wp2_with fail
    clear hw0
    refine K1.out.mono ?_
    rintro e w1 ⟨rfl, hk⟩
    have K2 := Hid.mk' (K0.out.trans hk)
    clear hk
    go_wp2
    exact ⟨rfl, TakeP.no E.out K2.out⟩
  have ST := Hid.mk' (ST.out.trans (if_pos h1))
  have K1 := Hid.mk' (takeName_yes g L w0 R0.out hL h1)
  have le := spn_le pL L
  by_cases h2 : Lib.hasPrefix (L.drop (spn pL L)) [61, 34] = true
  rotate_left
  · have E : Hid (attrA L = none) := Hid.mk' (by rw [ST.out, if_neg h2])
    rw [Bool.not_eq_true] at h2
    have H2 := Hid.mk' h2
    clear h2
    go_enter Tryz.func151, Tryz.ntmps151
    go_wp2_with fail
    clear hw0
    refine K1.out.mono ?_
    rintro e w1 ⟨rfl, hr1, hk1⟩
    have K2 := Hid.mk' (K0.out.trans hk1)
    have E1 := Hid.mk' (E0.out.kept hk1 hg)
    have KT := Hid.mk' (take_no g (L.drop (spn pL L)) [61, 34] w1 tp pv hr1 H2.out (by omega) E1.out.tag)
    clear hk1 hr1
    go_wp2_with fail
    refine KT.out.mono ?_
    rintro e w2 ⟨rfl, hk⟩
    have K3 := Hid.mk' (K2.out.trans hk)
    clear hk
    go_wp2
    exact ⟨rfl, TakeP.no E.out K3.out⟩
  have ST := Hid.mk' (ST.out.trans (if_pos h2))
  have H2 := Hid.mk' h2
  have dl : (L.drop (spn pL L + 2)).length ≤ 1000 := by rw [List.length_drop]; omega
  clear h2
  by_cases h3 : spn pQ (L.drop (spn pL L + 2)) < (L.drop (spn pL L + 2)).length
  rotate_left
  · have E : Hid (attrA L = none) := Hid.mk' (by rw [ST.out, if_neg h3])
    go_enter Tryz.func151, Tryz.ntmps151
    go_wp2_with fail
    clear hw0
    refine K1.out.mono ?_
    rintro e w1 ⟨rfl, hr1, hk1⟩
    have K2 := Hid.mk' (K0.out.trans hk1)
    have E1 := Hid.mk' (E0.out.kept hk1 hg)
    have KT := take_yes g (L.drop (spn pL L)) [61, 34] w1 hr1 H2.out
    rw [trim1 _ _ H2.out, List.drop_drop] at KT
    have KT := Hid.mk' KT
    clear hk1 hr1
    go_wp2_with fail
    refine KT.out.mono ?_
    rintro e w2 ⟨rfl, hr2, hk⟩
    have K3 := Hid.mk' (K2.out.trans hk)
    have E2 := E1.out.kept hk hg
    have hr2 : RL g (L.drop (spn pL L + 2)) w2 := hr2
    obtain ⟨c0, c1, c2⟩ := hr2.cell
    have KC := cut_any (L.drop (spn pL L + 2)) w2 dl
    rw [if_neg h3] at KC
    have KC := Hid.mk' KC
    have t1 := Hid.mk' E2.tag
    have sz2 := E2.hB
    clear hk hr2 KT E2
    go_wp2_with fail
    refine KC.out.mono ?_
    rintro e w3 ⟨rfl, hb⟩
    have K4 := Hid.mk' (K3.out.trans (KeptIn.of_below hb))
    have t3 : w3.cell? ⟨1, 0, none⟩ = some (.iface tp pv) := (hb.cell (p := ⟨1, 0, none⟩) (by show 1 < w2.heap.size; omega)).trans t1.out
    clear hb KC c0 c1
    go_wp2
    exact ⟨rfl, TakeP.no E.out K4.out⟩
  have ST := Hid.mk' (ST.out.trans (if_pos h3))
  generalize hn : spn pL L = n at *
  generalize hq : spn pQ (L.drop (n + 2)) = q at *
  have DL : decV ((L.drop (n + 2)).take q) = decode ((L.drop (n + 2)).take q) := by unfold decV; rw [if_neg (by rw [List.length_take]; omega)]
  have DC : decC ((L.drop (n + 2)).take q) = 0 := by unfold decC; rw [if_neg (by rw [List.length_take]; omega)]
  go_enter Tryz.func151, Tryz.ntmps151
  go_wp2_with fail
  clear hw0
  refine K1.out.mono ?_
  rintro e w1 ⟨rfl, hr1, hk1⟩
  have K2 := Hid.mk' (K0.out.trans hk1)
  have E1 := Hid.mk' (E0.out.kept hk1 hg)
  have RB1 := Hid.mk' (rowK RB.out hk1 (.inr (by omega)))
  have KT := take_yes g (L.drop n) [61, 34] w1 hr1 H2.out
  rw [trim1 _ _ H2.out, List.drop_drop] at KT
  have KT := Hid.mk' KT
  clear hk1 hr1
  go_wp2_with fail
  refine KT.out.mono ?_
  rintro e w2 ⟨rfl, hr2, hk⟩
  have K3 := Hid.mk' (K2.out.trans hk)
  have E2 := Hid.mk' (E1.out.kept hk hg)
  have RB2 := Hid.mk' (rowK RB1.out hk (.inr (by omega)))
  have hr2 : RL g (L.drop (n + 2)) w2 := hr2
  have R2 := Hid.mk' hr2
  obtain ⟨c0, c1, c2⟩ := hr2.cell
  have KC := cut_any (L.drop (n + 2)) w2 dl
  rw [hq, if_pos h3, List.drop_drop] at KC
  have KC := Hid.mk' KC
  clear hk hr2 KT
  go_wp2_with fail
  refine KC.out.mono ?_
  rintro e w3 ⟨rfl, hb⟩
  have K4 := Hid.mk' (K3.out.trans (KeptIn.of_below hb))
  have E3 := Hid.mk' (E2.out.keep (hb.mono E2.out.hB))
  have RB3 := Hid.mk' (rowB RB2.out hb)
  have R3 := R2.out.below hb
  have P3 := R3.put (L.drop (n + 2 + (q + 1)))
  have E4 := Hid.mk' (E3.out.kept P3.2 hg)
  have K5 := Hid.mk' (K4.out.trans P3.2)
  have RB4 := Hid.mk' (rowK RB3.out P3.2 (.inr (by omega)))
  have P4 := Hid.mk' P3.1
  clear c0 c1 c2
  obtain ⟨c0, c1, c2⟩ := R3.cell
  have sz3 : w.heap.size + 1 ≤ w3.heap.size := by have := RB3.out.lt; omega
  clear hb KC P3 R3
  have KD := implDec_any ⟨((L.drop (n + 2)).take q).toArray⟩ (w3.setCell ⟨g, 0, none⟩ (.string ⟨(L.drop (n + 2 + (q + 1))).toArray⟩)) (by rw [list_size, List.length_take]; omega) E4.out.refs E4.out.errs
  rw [list_data, DL, DC] at KD
  have KD := Hid.mk' KD
  go_wp2_with fail
  generalize w3.setCell ⟨g, 0, none⟩ (.string ⟨(L.drop (n + 2 + (q + 1))).toArray⟩) = w4 at *
  refine KD.out.mono ?_
  rintro e w5 ⟨v, rfl, hob, hin, hb⟩
  have RB5 := rowB RB4.out hb
  obtain ⟨d0, d1, d2⟩ := cells2 RB5
  have f0 := RB5.frozen 0
  have f1 := RB5.frozen 1
  have K6 := Hid.mk' (K5.out.trans (KeptIn.of_below hb))
  have R6 := Hid.mk' (P4.out.below hb)
  have s4 : w.heap.size + 1 ≤ w4.heap.size := RB4.out.lt
  obtain ⟨av, cv, rfl, _⟩ := hob.len
  have OBH := Hid.mk' hob
  have INH := Hid.mk' hin
  have szb := hb.size
  have hfl : ∀ (w : World) (a : Option Addr) (m c : Nat), (Instr.field 189 (.agg #[.int .i64 0, .slice a m c]) 1).run Tryz.prog w = .ok (.slice a m c) w := fun _ _ _ _ => by kernel_rfl
  clear hb RB5 hob hin KD c0 c1 c2
  go_wp2
  refine bodyPost_ret (v := .agg #[.string ⟨(L.take n).toArray⟩, .slice av (decode ((L.drop (n + 2)).take q)).length cv]) (by simp [results, Tryz.results151, go_sem, *]) rfl ?_
  unfold TakeP
  rw [ST.out]
  have KB : KeptIn w.heap.size (w.heap.size + 1) w5 ((w5.setCell ⟨w.heap.size, 0, none⟩ (.string ⟨(L.take n).toArray⟩)).setCell ⟨w.heap.size, 1, none⟩ (.slice av (decode ((L.drop (n + 2)).take q)).length cv)) :=
    ((KeptIn.refl _ _ _).setCell (p := ⟨w.heap.size, 0, none⟩) (Nat.le_refl _) (Nat.lt_succ_self _) _).setCell (p := ⟨w.heap.size, 1, none⟩) (Nat.le_refl _) (Nat.lt_succ_self _) _
  refine ⟨⟨_, rfl, OBH.out.keep (fun k e _ => ?_), fun k e => ?_, ?_⟩, ?_⟩
  · rw [Deep.blk_setCell_other _ _ _ _ (by have := INH.out k e; show k ≠ w.heap.size; omega), Deep.blk_setCell_other _ _ _ _ (by have := INH.out k e; show k ≠ w.heap.size; omega)]
  · have := INH.out k e
    simp only [World.heap_size_setCell']; omega
  · have := rowK R6.out KB (.inl (by omega))
    rw [show n + 2 + q + 1 = n + 2 + (q + 1) from by omega]
    exact this
  · exact ⟨K6.out.os, K6.out.tape, K6.out.output, by simp only [World.heap_size_setCell']; exact K6.out.size, fun i hi hx => by
      rw [Deep.blk_setCell_other _ _ _ _ (by show i ≠ w.heap.size; omega), Deep.blk_setCell_other _ _ _ _ (by show i ≠ w.heap.size; omega)]
      exact K6.out.block i hi hx⟩

theorem OA.app2 {lo : Nat} {w w1 w2 : World} {v v' u : Value} {l : List AT} {us : List Value} {a : AT} (h : OA lo w v l us) (sz : w.heap.size ≤ w1.heap.size) (hw : ∀ k, lo ≤ k → k < w.heap.size → w1.heap[k]? = w.heap[k]?) (hu : OB w1 u a.vl) (hlo : lo ≤ w.heap.size) (hn : ∀ k, u.ownBlock = some k → w.heap.size ≤ k)
    (ho : w2.ownsRow lo 120 2 v' (l.length + 1) (acs l us ++ [.string a.nm, u])) (hg : w1.grownBy w2 v.ownBlock) (hv : v'.ownBlock = v.ownBlock ∨ v'.ownBlock = some w1.heap.size) : OA lo w2 v' (l ++ [a]) (us ++ [u]) := by
  have g1 : ∀ j, j < l.length → (us ++ [u]).getD j undef = us.getD j undef := fun j hj => by simp [List.getD_eq_getElem?_getD, List.getElem?_append_left (h.len.symm ▸ hj)]
  have g2 : (us ++ [u]).getD l.length undef = u := by simp [List.getD_eq_getElem?_getD, ← h.len]
  have a1 : ∀ j, j < l.length → atK (l ++ [a]) j = atK l j := fun j hj => by simp [atK, List.getD_eq_getElem?_getD, List.getElem?_append_left hj]
  have a2 : atK (l ++ [a]) l.length = a := by simp [atK, List.getD_eq_getElem?_getD]
  have old : ∀ j, j < l.length → ∀ k, (us.getD j undef).ownBlock = some k → k < w.heap.size := fun j hj k e => (h.val j hj).lt k e
  have vold : ∀ k, v.ownBlock = some k → k < w.heap.size := fun k e => (h.row.lt k e).2
  have ult : ∀ k, u.ownBlock = some k → k < w1.heap.size := fun k e => hu.lt k e
  have hvl : ∀ j, j < l.length → OB w2 (us.getD j undef) (atK l j).vl := fun j hj =>
    (h.val j hj).keep (fun k e _ => by
      rw [hg.block k (by have := old j hj k e; omega) (fun e2 => h.av j hj k e2.symm e), hw k (h.vlo j hj k e) (old j hj k e)])
  have huv : OB w2 u a.vl :=
    hu.keep (fun k e _ => hg.block k (ult k e) (fun e2 => by have := vold k e2.symm; have := hn k e; omega))
  refine ⟨by simp [h.len], ?_, fun j hj => ?_, fun j hj k e => ?_, fun i j hij hj => ?_, fun j hj => ?_⟩
  · rw [acs_snoc _ _ _ _ h.len, List.length_append]; exact ho
  · rw [List.length_append] at hj
    by_cases e : j = l.length
    · subst e; rw [g2, a2]; exact huv
    · rw [g1 j (by simp at hj; omega), a1 j (by simp at hj; omega)]; exact hvl j (by simp at hj; omega)
  · rw [List.length_append] at hj
    by_cases ej : j = l.length
    · subst ej; rw [g2] at e; have := hn k e; omega
    · rw [g1 j (by simp at hj; omega)] at e; exact h.vlo j (by simp at hj; omega) k e
  · rw [List.length_append] at hj
    rw [g1 i (by simp at hj; omega)]
    by_cases e : j = l.length
    · subst e; rw [g2]; intro k e1 e2; have := old i hij k e1; have := hn k e2; omega
    · rw [g1 j (by simp at hj; omega)]; exact h.ap i j hij (by simp at hj; omega)
  · rw [List.length_append] at hj
    intro k e1 e2
    rcases hv with hv | hv
    · rw [hv] at e1
      by_cases e : j = l.length
      · subst e; rw [g2] at e2; have := vold k e1; have := hn k e2; omega
      · rw [g1 j (by simp at hj; omega)] at e2; exact h.av j (by simp at hj; omega) k e1 e2
    · rw [hv] at e1
      cases e1
      by_cases e : j = l.length
      · subst e; rw [g2] at e2; have := ult _ e2; omega
      · rw [g1 j (by simp at hj; omega)] at e2; have := old j (by simp at hj; omega) _ e2; omega

set_option maxRecDepth 100000 in
set_option maxHeartbeats 1600000 in
theorem withAttr_any (lo : Nat) (wz w : World) (v u : Value) (acc : List AT) (us : List Value) (a : AT) (h : OA lo wz v acc us) (hsz : wz.heap.size ≤ w.heap.size) (hk : ∀ k, lo ≤ k → k < wz.heap.size → w.heap[k]? = wz.heap[k]?) (hu : OB w u a.vl) (hn : ∀ k, u.ownBlock = some k → wz.heap.size ≤ k) (hlo : lo ≤ wz.heap.size) (few : acc.length ≤ 1000) :
    Calls Tryz.prog 150 #[v, .agg #[.string a.nm, u]] w fun e w' => ∃ v' us', e = .returned v' ∧ OA lo w' v' (addA acc a) us' ∧ Below lo w w' := by
  obtain ⟨au, cu, rfl, _⟩ := hu.len
  have N0 := below_new w (.cells #[.string a.nm, .slice au a.vl.length cu] 120)
  have HO := h.keep (Nat.le_refl _) hk
  have H0 := Hid.mk' (HO.below N0)
  have U0 := Hid.mk' (hu.below N0)
  obtain ⟨av, cv, rfl, hAA⟩ := (HO.below N0).at
  have RB := Hid.mk' (rowp2 w 120 (.string a.nm) (.slice au a.vl.length cu))
  have B0 := Hid.mk' N0
  have HZ := Hid.mk' h
  have HK := Hid.mk' hk
  have HN := Hid.mk' hn
  have sz0 : (w.alloc (.cells #[.string a.nm, .slice au a.vl.length cu] 120)).heap.size = w.heap.size + 1 := by simp
  have KP := Hid.mk' (placeOf_any av cv acc a.nm _ hAA (by omega))
  clear HO N0 hAA h hk hn hu
  generalize hw0 : w.alloc (.cells #[.string a.nm, .slice au a.vl.length cu] 120) = w0 at *
  obtain ⟨g0, g1, g2⟩ := cells2 RB.out
  by_cases hp : 0 ≤ posK acc a.nm
  · have E : Hid (addA acc a = acc) := Hid.mk' (by unfold addA; rw [if_pos hp])
    go_enter Tryz.func150, Tryz.ntmps150
    go_wp2_with fail
    clear hw0
    refine KP.out.mono ?_
    rintro e w1 ⟨rfl, hb⟩
    have H1 := Hid.mk' (H0.out.below hb)
    have B1 := Hid.mk' ((B0.out.trans (hb.mono B0.out.size)).mono (show lo ≤ w.heap.size by omega))
    clear hb
    go_wp2
    go_ret
    exact ⟨_, us, rfl, by rw [E.out]; exact H1.out, B1.out⟩
  · have E : Hid (addA acc a = acc ++ [a]) := Hid.mk' (by unfold addA; rw [if_neg hp])
    go_enter Tryz.func150, Tryz.ntmps150
    go_wp2_with fail
    clear hw0
    refine KP.out.mono ?_
    rintro e w1 ⟨rfl, hb⟩
    have RB1 := rowB RB.out hb
    clear g0 g1 g2
    obtain ⟨g0, g1, g2⟩ := cells2 RB1
    have sz1 := hb.size
    have NN := below_new w1 (.cells #[.string a.nm, .slice au a.vl.length cu] 120)
    have M1 := (B0.out.trans (hb.mono B0.out.size)).trans (NN.mono (show w.heap.size ≤ w1.heap.size by omega))
    have OWN := Hid.mk' ((H0.out.below hb).below NN)
    have U1 := Hid.mk' ((U0.out.below hb).below NN)
    have MM := Hid.mk' M1
    clear RB1 hb NN M1
    go_wp2_with (at_builtin; refine wpList_append_at _ rfl (.tmp 11) (.tmp 13) 99 rfl lo 120 (.agg #[.string ⟨#[]⟩, .slice none 0 0]) 2 40 Tryz.underlying99 Tryz.info120 rfl (by decide) _ _ _ rfl OWN.out.row _ 1 _ [.string a.nm, .slice au a.vl.length cu] rfl rfl (.inr ⟨_, rfl, one_attr w1 _ _ _ _ rfl⟩) (by simp [Value.oneCell']) (by unfold maxLen; omega) (by omega) (by simp; omega) ?_; intro v' w4 ho hgr hat)
    have A4 := Hid.mk' (HZ.out.app2 (w1 := w1.alloc (.cells #[.string a.nm, .slice au a.vl.length cu] 120)) (Nat.le_trans hsz MM.out.size) (fun k h1 h2 => by rw [MM.out.block k (by omega)]; exact HK.out k h1 h2) U1.out hlo HN.out ho hgr hat)
    have B4 := Hid.mk' ((MM.out.mono (show lo ≤ w.heap.size by omega)).grown hgr (by have := MM.out.size; omega) (own_lo OWN.out.row))
    clear ho hgr hat
    go_ret
    exact ⟨_, _, rfl, by rw [E.out]; exact A4.out, B4.out⟩

end Go.Proofs.YtkiinnmindmnbaaGreatDoor
