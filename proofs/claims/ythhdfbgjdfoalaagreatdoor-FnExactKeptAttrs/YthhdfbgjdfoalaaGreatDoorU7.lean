/- Words that are let in: a map of them, of which those that are not safe are taken out. -/
import Derived.Test.YthhdfbgjdfoalaaGreatDoorU6
import Derived.Maps.OwnSet
namespace Go.Proofs.YthhdfbgjdfoalaaGreatDoor
open Go.RowKit Go.Maps
set_option linter.unusedVariables false
set_option linter.unusedSimpArgs false

theorem keyed9 : Keyed Tryz.prog 9 := string_keyed Tryz.underlying9
theorem zeroE (w : World) : (zeroValue 114).run Tryz.prog w = .ok (.agg #[]) w := by kernel_rfl

/-- The map in block b has just the texts that f tells. -/
def WS (w : World) (b : Nat) (f : ByteArray → Bool) : Prop := ∃ n D, w.ownsMap Tryz.prog 9 (unitElem (H := Unit)) b n D ∧ ∀ s : ByteArray, Maps.has D (.string s.data.toList) = f s

theorem WS.block {w w' : World} {b : Nat} {f : ByteArray → Bool} (h : WS w b f) (hb : w'.heap[b]? = w.heap[b]?) : WS w' b f := by
  obtain ⟨n, D, ⟨es, clock, h1, r⟩, h2⟩ := h
  exact ⟨n, D, ⟨es, clock, hb.trans h1, r⟩, h2⟩

theorem WS.lt {w : World} {b : Nat} {f : ByteArray → Bool} (h : WS w b f) : b < w.heap.size := by
  obtain ⟨n, D, h1, _⟩ := h
  exact h1.lt

theorem WS.below {w w' : World} {b : Nat} {f : ByteArray → Bool} (h : WS w b f) (hb : Below w.heap.size w w') : WS w' b f := h.block (hb.block b h.lt)

theorem beq_same {x s : ByteArray} : (x.toList == s.toList) = true ↔ x = s := by
  rw [beq_iff_eq, tlData, tlData]
  constructor
  · intro h
    cases x; cases s
    simp at h
    rw [h]
  · rintro rfl; rfl

theorem lit_ne {x s : ByteArray} (h : ¬ x = s) : (Lit.string s.data.toList) ≠ .string x.data.toList := by
  intro e
  injection e with e
  apply h
  cases x; cases s
  simp at e
  rw [e]

theorem has_put_is {D : DataW Unit} {f : ByteArray → Bool} (hD : IsMap D) (h : ∀ s : ByteArray, Maps.has D (.string s.data.toList) = f s) (x : ByteArray) (d : DataW Unit) (s : ByteArray) :
    Maps.has (D.put (.string x.data.toList) d) (.string s.data.toList) = (f s || (x.toList == s.toList)) := by
  by_cases e : x = s
  · subst e
    rw [has_put_same hD (by trivial), beq_same.2 rfl, Bool.or_true]
  · rw [has_put_other (lit_ne e), h s]
    have : (x.toList == s.toList) = false := Bool.eq_false_iff.2 fun hh => e (beq_same.1 hh)
    rw [this, Bool.or_false]

theorem has_del_is {D : DataW Unit} {f : ByteArray → Bool} (h : ∀ s : ByteArray, Maps.has D (.string s.data.toList) = f s) (x s : ByteArray) :
    Maps.has (D.del (.string x.data.toList)) (.string s.data.toList) = (f s && !(x.toList == s.toList)) := by
  by_cases e : x = s
  · subst e
    rw [has_del_same, beq_same.2 rfl]; simp
  · rw [has_del_other (lit_ne e), h s]
    have : (x.toList == s.toList) = false := Bool.eq_false_iff.2 fun hh => e (beq_same.1 hh)
    rw [this]; simp

/-- What is left of l when its first k words have been held against safe. -/
def leftB (l safe : List ByteArray) (k : Nat) (s : ByteArray) : Bool := hasL l s && !(hasL (l.take k) s && !hasL safe s)

theorem hasL_eq {l : List ByteArray} {x s : ByteArray} (h : (x.toList == s.toList) = true) : hasL l x = hasL l s := by rw [beq_same.1 h]

theorem leftB_keep {l safe : List ByteArray} {k : Nat} (hk : k < l.length) (hs : hasL safe (sK l k) = true) (s : ByteArray) : leftB l safe (k + 1) s = leftB l safe k s := by
  unfold leftB
  rw [hasL_take hk]
  cases he : ((sK l k).toList == s.toList) with
  | false => rw [Bool.or_false]
  | true => rw [← hasL_eq (l := safe) he, hs]; simp

theorem leftB_drop {l safe : List ByteArray} {k : Nat} (hk : k < l.length) (hs : hasL safe (sK l k) = false) (s : ByteArray) : leftB l safe (k + 1) s = (leftB l safe k s && !((sK l k).toList == s.toList)) := by
  unfold leftB
  rw [hasL_take hk]
  cases he : ((sK l k).toList == s.toList) with
  | false => rw [Bool.or_false]; simp
  | true => rw [← hasL_eq (l := safe) he, hs]; simp

theorem leftB_end (l safe : List ByteArray) (s : ByteArray) : leftB l safe l.length s = (hasL l s && hasL safe s) := by
  unfold leftB
  rw [List.take_length]
  cases hasL l s <;> cases hasL safe s <;> rfl

set_option maxRecDepth 100000 in
set_option maxHeartbeats 3200000 in
theorem letIn_any (a b : Option Addr) (c d : Nat) (l safe : List ByteArray) (w : World) (ha : StAt w a l) (hb : StAt w b safe) (hl : (l.length : Int) + ssz l ≤ 1048576) (hm : (safe.length : Int) ≤ 1048576) :
    Calls Tryz.prog 52 #[.slice a l.length c, .slice b safe.length d] w fun e w' => e = .returned (.map (some w.heap.size)) ∧ WS w' w.heap.size (fun s => hasL l s && hasL safe s) ∧ Below w.heap.size w w' := by
  have hmm := @run_makeMap Tryz.prog
  have HA := Hid.mk' ha
  have HS := Hid.mk' hb
  clear ha hb
  go_enter Tryz.func52, Tryz.ntmps52
  go_wp2
  go_loopw [13] (fun i wr => ∃ k : Nat, k ≤ l.length ∧ i = .int .i64 k ∧ (∃ D, wr.ownsMap Tryz.prog 9 (unitElem (H := Unit)) w.heap.size k D ∧ ∀ s : ByteArray, Maps.has D (.string s.data.toList) = hasL (l.take k) s) ∧ Below w.heap.size w wr) (fun i _ => l.length - (intOf i).toNat)
  case atStart => exact ⟨0, Nat.zero_le _, rfl, ⟨_, World.ownsMap_made _ _ _ _, fun s => rfl⟩, (Below.refl _ _).alloc (Nat.le_refl _) _⟩
  case round =>
    obtain ⟨k, hk, rfl, ⟨D, hown, hD⟩, hbl⟩ := hrel
    have HD := Hid.mk' hD
    have HB := Hid.mk' hbl
    have HW := Hid.mk' hown
    clear hmm hD
    by_cases hlt : k < l.length
    · have ci : (k : Int) < (l.length : Int) := by omega
      rcases HA.out with ha | ⟨b1, o1, rfl, hbs, hcl⟩
      · exact absurd hlt (by rw [ha]; exact Nat.not_lt_zero _)
      have h1 : wr.cell? ⟨b1, o1 + k, none⟩ = some (.string (sK l k)) := (hbl.cell hbs).trans (hcl k hlt)
      have hz := sK_le l k hlt
      have HK := Hid.mk' (WideMaps.keyOf_string_mk (P := Tryz.prog) Tryz.underlying9 (s := sK l k) (by unfold maxLen; omega))
      have HT := Hid.mk' (fun s => hasL_take (s := s) hlt)
      clear hbl hcl hown hz
      generalize sK l k = x at *
      go_wp2_with (first | (at_mapUpdate; refine wpList_mapUpdate_own _ rfl _ _ _ 61 rfl 9 114 keyed9 Tryz.underlying61 (unitElem (H := Unit)) w.heap.size k D rfl HW.out (by unfold maxLen; omega) _ _ _ rfl rfl HK.out _ [] unitElem_mk ?_; intro w1 hown1 hgrow1) | go_in)
      go_roundw
      case rel => exact ⟨k + 1, by omega, by go_num, ⟨_, hown1, fun s => by rw [has_put_is HW.out.isMap HD.out, HT.out]⟩, HB.out.grown hgrow1 HB.out.size (fun j hj => by cases hj; exact Nat.le_refl _)⟩
      case measure => simp [intOf]; omega
    · have ci : ¬ (k : Int) < (l.length : Int) := by omega
      have e : k = l.length := by omega
      subst e
      clear hown hbl hlt hk
      go_wp2
      go_loopw [23] (fun i wr => ∃ k : Nat, k ≤ l.length ∧ i = .int .i64 k ∧ (∃ n D, wr.ownsMap Tryz.prog 9 (unitElem (H := Unit)) w.heap.size n D ∧ ∀ s : ByteArray, Maps.has D (.string s.data.toList) = leftB l safe k s) ∧ Below w.heap.size w wr) (fun i _ => l.length - (intOf i).toNat)
      case atStart => exact ⟨0, Nat.zero_le _, rfl, ⟨_, _, HW.out, fun s => by rw [HD.out, List.take_length]; unfold leftB; rw [List.take_zero]; simp [hasL]⟩, HB.out⟩
      case round =>
        obtain ⟨k, hk, rfl, ⟨n, D, hown, hD⟩, hbl⟩ := hrel
        have HD := Hid.mk' hD
        have HB := Hid.mk' hbl
        have HW := Hid.mk' hown
        clear hD
        by_cases hlt : k < l.length
        · have ci : (k : Int) < (l.length : Int) := by omega
          rcases HA.out with ha | ⟨b1, o1, rfl, hbs, hcl⟩
          · exact absurd hlt (by rw [ha]; exact Nat.not_lt_zero _)
          have h1 : wr.cell? ⟨b1, o1 + k, none⟩ = some (.string (sK l k)) := (hbl.cell hbs).trans (hcl k hlt)
          have hz := sK_le l k hlt
          have HK := Hid.mk' (WideMaps.keyOf_string_mk (P := Tryz.prog) Tryz.underlying9 (s := sK l k) (by unfold maxLen; omega))
          have L1 := Hid.mk' (leftB_keep (safe := safe) hlt)
          have L2 := Hid.mk' (leftB_drop (safe := safe) hlt)
          have KC := containsS_any b d safe (sK l k) wr (HS.out.below hbl) hm
          clear hbl hcl hown hz
          generalize sK l k = x at *
          cases hc : hasL safe x with
          | true =>
            rw [hc] at KC
            have KC := Hid.mk' KC
            have L1 := Hid.mk' (L1.out hc)
            go_wp2_with fail
            refine KC.out.mono ?_
            rintro e w1 ⟨rfl, hw1⟩
            obtain rfl := hw1.symm
            go_wp2
            go_roundw
            case rel => exact ⟨k + 1, by omega, by go_num, ⟨n, D, HW.out, fun s => by rw [HD.out, L1.out]⟩, HB.out⟩
            case measure => simp [intOf]; omega
          | false =>
            rw [hc] at KC
            have KC := Hid.mk' KC
            have L2 := Hid.mk' (L2.out hc)
            go_wp2_with fail
            refine KC.out.mono ?_
            rintro e w1 ⟨rfl, hw1⟩
            obtain rfl := hw1.symm
            go_wp2_with (first | (at_delete; refine wpList_delete_own _ rfl _ _ 61 9 rfl 114 keyed9 Tryz.underlying61 _ w.heap.size n D rfl HW.out _ _ rfl HK.out ?_; intro w1 hown1 hturn1) | go_in)
            go_roundw
            case rel => exact ⟨k + 1, by omega, by go_num, ⟨n, _, hown1, fun s => by rw [has_del_is HD.out, L2.out]⟩, HB.out.grown hturn1.grown HB.out.size (fun j hj => by cases hj; exact Nat.le_refl _)⟩
            case measure => simp [intOf]; omega
        · have ci : ¬ (k : Int) < (l.length : Int) := by omega
          have e : k = l.length := by omega
          subst e
          go_wp2
          go_ret
          exact ⟨rfl, ⟨n, D, HW.out, fun s => by rw [HD.out, leftB_end]⟩, HB.out⟩

set_option maxRecDepth 100000 in
theorem hasW_any (b : Nat) (f : ByteArray → Bool) (s : ByteArray) (w : World) (h : WS w b f) (hs : (s.size : Int) ≤ 1048576) :
    Calls Tryz.prog 70 #[.map (some b), .string s] w fun e w' => e = .returned (.bool (f s)) ∧ Below w.heap.size w w' := by
  obtain ⟨n, D, h1, h2⟩ := h
  have HW := Hid.mk' h1
  have HD := Hid.mk' h2
  have HK := Hid.mk' (WideMaps.keyOf_string_mk (P := Tryz.prog) Tryz.underlying9 (s := s) (by unfold maxLen; omega))
  clear h1 h2
  go_enter Tryz.func70, Tryz.ntmps70
  go_wp2_with (first | (at_lookup; refine wpList_lookup_own_unit _ rfl _ _ 61 rfl 9 114 keyed9 Tryz.underlying61 (zeroE _) b n D rfl HW.out _ _ rfl HK.out ?_) | go_in)
  go_ret
  exact ⟨by rw [← HD.out]; rfl, below_new _ _⟩

end Go.Proofs.YthhdfbgjdfoalaaGreatDoor
