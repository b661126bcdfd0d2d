/- The text of a start tag: the mathematics, and the model's l4Open. -/
import Derived.Test.YtcjnfodkppcpoaaDoorXDet
import Derived.Test.YtcjnfodkppcpoaaDoorXV2
namespace Go.Proofs.YtcjnfodkppcpoaaDoor
open Go.RowKit
set_option linter.unusedVariables false
set_option linter.unusedSimpArgs false

/-- The text of an attribute, of attributes, of a start tag. -/
def attrT (a : AT) : List UInt8 := [32] ++ (a.nm.data.toList ++ ([61, 34] ++ (escAll a.vl ++ [34])))
def attrsT : List AT → List UInt8
  | [] => []
  | a :: r => attrT a ++ attrsT r
theorem attrsT_append : ∀ (l m : List AT), attrsT (l ++ m) = attrsT l ++ attrsT m
  | [], m => rfl
  | b :: r, m => by simp only [List.cons_append, attrsT, attrsT_append r m, List.append_assoc]
theorem attrsT_take (l : List AT) (k : Nat) (h : k < l.length) : attrsT (l.take (k + 1)) = attrsT (l.take k) ++ attrT (atK l k) := by
  rw [List.take_add_one, List.getElem?_eq_getElem h, Option.toList_some, attrsT_append]
  simp [attrsT, atK, List.getD_eq_getElem?_getD, List.getElem?_eq_getElem h]
def openT (nm : ByteArray) (l : List AT) (sh : Bool) : List UInt8 := [60] ++ (nm.data.toList ++ (attrsT l ++ ((if sh then [47] else []) ++ [62])))

theorem escB_one (b : Int) : 1 ≤ (escB b).size := by
  unfold escB
  split
  · decide
  split
  · decide
  split
  · decide
  split
  · decide
  · exact Nat.le_refl 1
theorem escAll_ge (l : List Int) : l.length ≤ (escAll l).length := by
  induction l with
  | nil => simp [escAll]
  | cons b r ih =>
    have := escB_one b
    have e : (escB b).data.toList.length = (escB b).size := Array.length_toList
    simp only [escAll, List.length_append, List.length_cons, e]; omega
theorem attrT_len (a : AT) : (attrT a).length = a.nm.size + (escAll a.vl).length + 4 := by
  have e : a.nm.data.toList.length = a.nm.size := Array.length_toList
  simp only [attrT, List.length_append, e, List.length_cons, List.length_nil]; omega
theorem attrsT_le (l : List AT) (k : Nat) : (attrsT (l.take k)).length ≤ (attrsT l).length := by
  have : attrsT l = attrsT (l.take k) ++ attrsT (l.drop k) := by rw [← attrsT_append, List.take_append_drop]
  rw [this, List.length_append]; omega
theorem openT_len (nm : ByteArray) (l : List AT) (sh : Bool) : (openT nm l sh).length = 2 + nm.size + (attrsT l).length + (if sh then 1 else 0) := by
  have e : nm.data.toList.length = nm.size := Array.length_toList
  cases sh <;> simp only [openT, List.length_append, e, List.length_cons, List.length_nil, Bool.false_eq_true, if_true, if_false] <;> omega
/-- A value that is too large makes the text too large. -/
theorem openT_big {nm : ByteArray} {l : List AT} {sh : Bool} {k : Nat} (hk : k < l.length) (hv : 160 < (atK l k).vl.length) : 160 < (openT nm l sh).length := by
  have h1 := attrsT_take l k hk
  have h2 := attrsT_le l (k + 1)
  have h3 := attrT_len (atK l k)
  have h4 := escAll_ge (atK l k).vl
  have h5 := openT_len nm l sh
  rw [h1, List.length_append] at h2
  omega
theorem asz_k (l : List AT) (k : Nat) (h : k < l.length) : (atK l k).nm.size + (atK l k).vl.length ≤ asz l := by
  have h1 := asz_take l k h
  have h2 := asz_le l (k + 1)
  omega
/-- How long the text of attributes can be. -/
theorem attrsT_bd (l : List AT) : (attrsT l).length ≤ 6 * asz l + 4 * l.length := by
  induction l with
  | nil => simp [attrsT]
  | cons a r ih =>
    have h3 := attrT_len a
    have h4 := escAll_len a.vl
    simp only [attrsT, asz, List.length_append, List.length_cons]; omega

theorem cat_list (p q : List UInt8) : ((⟨p.toArray⟩ : ByteArray) ++ ⟨q.toArray⟩) = ⟨(p ++ q).toArray⟩ := cat_ba p ⟨q.toArray⟩
theorem ba_list (s : ByteArray) : s = ⟨s.data.toList.toArray⟩ := by cases s; simp
theorem ba_size (p : List UInt8) : (⟨p.toArray⟩ : ByteArray).size = p.length := by simp [ByteArray.size]

/-- The values are bytes. -/
def VB (l : List AT) : Prop := ∀ k, k < l.length → Bytes (atK l k).vl

theorem step_text (p : List UInt8) (nm : ByteArray) (q : List UInt8) : (((((⟨p.toArray⟩ : ByteArray) ++ ⟨#[32]⟩) ++ nm) ++ ⟨#[61, 34]⟩) ++ ⟨q.toArray⟩) ++ ⟨#[34]⟩ = ⟨(p ++ ([32] ++ (nm.data.toList ++ ([61, 34] ++ (q ++ [34]))))).toArray⟩ := by
  have e1 : (⟨#[32]⟩ : ByteArray) = ⟨[(32 : UInt8)].toArray⟩ := rfl
  have e2 : (⟨#[61, 34]⟩ : ByteArray) = ⟨[(61 : UInt8), 34].toArray⟩ := rfl
  have e3 : (⟨#[34]⟩ : ByteArray) = ⟨[(34 : UInt8)].toArray⟩ := rfl
  rw [e1, e2, e3, cat_list, cat_ba, cat_list, cat_list, cat_list]
  simp

set_option maxRecDepth 100000 in
set_option maxHeartbeats 3200000 in
theorem l4Open_any (nm : ByteArray) (a : Option Addr) (c : Nat) (l : List AT) (sh : Bool) (w : World) (ha : AAt w a l) (hB : VB l) (hs : ∀ k, k < l.length → (atK l k).vl.length ≤ 160) (hn : (nm.size : Int) ≤ 1048576) (hl : (l.length : Int) + asz l ≤ 1048576) :
    Calls Tryd.prog 58 #[.string nm, .slice a l.length c, .bool sh] w fun e w' => e = .returned (.string ⟨(openT nm l sh).toArray⟩) ∧ Below w.heap.size w w' := by
  have HA := Hid.mk' ha
  have HV := Hid.mk' hB
  have HS := Hid.mk' hs
  have BD := attrsT_bd l
  clear ha hB hs
  have sz1 : (⟨#[60]⟩ : ByteArray).size = 1 := rfl
  have f0 : ¬ (9223372036854775807 < 1 + nm.size) := by omega
  go_enter Tryd.func58, Tryd.ntmps58
  go_wp2
  go_loopw [7, 8] (fun o i wr => ∃ k : Nat, k ≤ l.length ∧ i = .int .i64 k ∧ o = .string ⟨([60] ++ (nm.data.toList ++ attrsT (l.take k))).toArray⟩ ∧ Below w.heap.size w wr) (fun _ i _ => l.length - (intOf i).toNat)
  case atStart => exact ⟨0, Nat.zero_le _, rfl, by
    rw [show (⟨#[60]⟩ : ByteArray) = ⟨[(60 : UInt8)].toArray⟩ from rfl, cat_ba]; simp [attrsT], Below.refl _ _⟩
  case round =>
    obtain ⟨k, hk, rfl, rfl, hbl⟩ := hrel
    have R2 := Hid.mk' hbl
    have PL : ([60] ++ (nm.data.toList ++ attrsT (l.take k))).length ≤ 12000000 := by
      have := attrsT_le l k
      have e : nm.data.toList.length = nm.size := Array.length_toList
      simp only [List.length_append, e, List.length_cons, List.length_nil]; omega
    by_cases hlt : k < l.length
    · have ci : (k : Int) < (l.length : Int) := by omega
      rcases HA.out.below hbl with ha | ⟨b1, o1, rfl, s1, hc1⟩
      · exact absurd hlt (by rw [ha]; exact Nat.not_lt_zero _)
      obtain ⟨x1, p1, d1, x2, x3⟩ := hc1 k hlt
      have X3 := Hid.mk' x3
      have VK := Hid.mk' (HV.out k hlt)
      have SK := HS.out k hlt
      have NK := asz_k l k hlt
      have EL := escAll_len (atK l k).vl
      have E : Hid (attrsT (l.take (k + 1)) = attrsT (l.take k) ++ attrT (atK l k)) := Hid.mk' (attrsT_take l k hlt)
      clear hbl hc1 x3
      have q1 : (⟨([60] ++ (nm.data.toList ++ attrsT (l.take k))).toArray⟩ : ByteArray).size ≤ 12000000 := by rw [ba_size]; exact PL
      have q2 : (⟨(escAll (atK l k).vl).toArray⟩ : ByteArray).size ≤ 960 := by rw [ba_size]; omega
      have ST := Hid.mk' (step_text ([60] ++ (nm.data.toList ++ attrsT (l.take k))) (atK l k).nm (escAll (atK l k).vl))
      have E2 : Hid ([60] ++ (nm.data.toList ++ attrsT (l.take k)) ++ ([32] ++ ((atK l k).nm.data.toList ++ ([61, 34] ++ (escAll (atK l k).vl ++ [34])))) = [60] ++ (nm.data.toList ++ attrsT (l.take (k + 1)))) := Hid.mk' (by rw [E.out]; simp [attrT])
      clear PL EL
      generalize hp : (⟨([60] ++ (nm.data.toList ++ attrsT (l.take k))).toArray⟩ : ByteArray) = pre at *
      generalize hq : (⟨(escAll (atK l k).vl).toArray⟩ : ByteArray) = esc at *
      have t1 : (⟨#[32]⟩ : ByteArray).size = 1 := rfl
      have t2 : (⟨#[61, 34]⟩ : ByteArray).size = 2 := rfl
      have t3 : (⟨#[34]⟩ : ByteArray).size = 1 := rfl
      have HQ := Hid.mk' hq
      have f1 : ¬ (9223372036854775807 < pre.size + 1) := by omega
      have f2 : ¬ (9223372036854775807 < pre.size + 1 + (atK l k).nm.size) := by omega
      have f3 : ¬ (9223372036854775807 < pre.size + 1 + (atK l k).nm.size + 2) := by omega
      have f4 : ¬ (9223372036854775807 < pre.size + 1 + (atK l k).nm.size + 2 + esc.size) := by omega
      have f5 : ¬ (9223372036854775807 < pre.size + 1 + (atK l k).nm.size + 2 + esc.size + 1) := by omega
      clear hp hq
      go_wp2
      go_region_held3 (fun w' => w'.cell? ⟨b1, o1 + k * 2, none⟩ = some (.string (atK l k).nm) ∧ w'.cell? ⟨b1, o1 + k * 2 + 1, none⟩ = some (.slice p1 (atK l k).vl.length d1)) (simp [*])
        ((go_at_call 57; refine (l2Escape_any p1 d1 (atK l k).vl _ (X3.out.below (Below.refl _ _).drew) VK.out (by omega)).mono ?_; rintro e w3 ⟨rfl, hb3⟩; replace hb3 := undrew hb3; obtain ⟨hx1, hx2⟩ := bcell hb3; rw [HQ.out]))
      have R3 := Hid.mk' (R2.out.trans (hb3.mono R2.out.size))
      clear hb3 hx1 hx2
      go_wp2
      go_roundw
      case rel => exact ⟨k + 1, by omega, by go_num, by rw [ST.out, E2.out], R3.out⟩
      case measure => simp [intOf]; omega
    · have ci : ¬ (k : Int) < (l.length : Int) := by omega
      have e : k = l.length := by omega
      subst e
      rw [List.take_length] at PL ⊢
      have q1 : (⟨([60] ++ (nm.data.toList ++ attrsT l)).toArray⟩ : ByteArray).size ≤ 12000000 := by rw [ba_size]; exact PL
      have t3 : (⟨#[62]⟩ : ByteArray).size = 1 := rfl
      have t4 : (⟨#[47]⟩ : ByteArray).size = 1 := rfl
      cases sh with
      | true =>
        have F : Hid (((⟨([60] ++ (nm.data.toList ++ attrsT l)).toArray⟩ : ByteArray) ++ ⟨#[47]⟩) ++ ⟨#[62]⟩ = ⟨(openT nm l true).toArray⟩) := Hid.mk' (by
          rw [show (⟨#[47]⟩ : ByteArray) = ⟨[(47 : UInt8)].toArray⟩ from rfl, show (⟨#[62]⟩ : ByteArray) = ⟨[(62 : UInt8)].toArray⟩ from rfl, cat_list, cat_list]
          simp [openT])
        generalize (⟨([60] ++ (nm.data.toList ++ attrsT l)).toArray⟩ : ByteArray) = pre at *
        have f1 : ¬ (9223372036854775807 < pre.size + 1) := by omega
        have f2 : ¬ (9223372036854775807 < pre.size + 1 + 1) := by omega
        go_wp2
        go_ret
        exact ⟨by rw [F.out]; rfl, R2.out⟩
      | false =>
        have F : Hid ((⟨([60] ++ (nm.data.toList ++ attrsT l)).toArray⟩ : ByteArray) ++ ⟨#[62]⟩ = ⟨(openT nm l false).toArray⟩) := Hid.mk' (by
          rw [show (⟨#[62]⟩ : ByteArray) = ⟨[(62 : UInt8)].toArray⟩ from rfl, cat_list]
          simp [openT])
        generalize (⟨([60] ++ (nm.data.toList ++ attrsT l)).toArray⟩ : ByteArray) = pre at *
        have f1 : ¬ (9223372036854775807 < pre.size + 1) := by omega
        have f2 : ¬ (9223372036854775807 < pre.size + 1 + 1) := by omega
        go_wp2
        go_ret
        exact ⟨by rw [F.out]; rfl, R2.out⟩

end Go.Proofs.YtcjnfodkppcpoaaDoor
