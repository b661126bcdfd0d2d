/- Edges of nodes; the starts of a tree's elements, both sides. -/
import Derived.Test.YtcjnfodkppcpoaaDoorXUc
import Derived.Test.YtcjnfodkppcpoaaDoorXOo
import Derived.Test.YtcjnfodkppcpoaaDoorXGf
import Derived.Test.YtcjnfodkppcpoaaDoorXGg
namespace Go.Proofs.YtcjnfodkppcpoaaDoor
open Go.RowKit
set_option linter.unusedVariables false
set_option linter.unusedSimpArgs false

/-- The values and texts of nodes are bytes. -/
def NB (l : List ND) : Prop := ∀ k, k < l.length → VB (ndK l k).at_ ∧ Bytes (ndK l k).tx

/-- The code of the start of a node. -/
def opF (t : ND) : Int := if (t.tg.toList == []) = true then 0 else wtCode (startT t.tg t.at_)

/-- The code of the starts of nodes. -/
def opensF (l : List ND) : Int := firstF (fun k => opF (ndK l k)) l.length 0

/-- What stands where a node begins, and where it ends. -/
def egN (t : ND) : Bool → List UInt8
  | false => if (t.tg.toList == []) = true then escAll t.tx else openT t.tg t.at_ false
  | true => if holdB t = true then [60, 47] ++ (t.tg.data.toList ++ [62]) else []

def egE (l : List ND) (x : Nat × Bool) : List UInt8 := egN (ndK l x.1) x.2

theorem nsz_k (l : List ND) (k : Nat) (h : k < l.length) : nsz (ndK l k) ≤ nssz l := by
  have h1 := nssz_take l k h
  have h2 : ∀ (m : List ND) (i : Nat), nssz (m.take i) ≤ nssz m := by
    intro m
    induction m with
    | nil => intro i; simp [nssz]
    | cons x r ih =>
      intro i
      cases i with
      | zero => simp [nssz]
      | succ i => have := ih i; simp only [List.take_succ_cons, nssz]; omega
  have := h2 l (k + 1)
  omega

theorem opF_text {t : ND} (h : (t.tg.toList == []) = true) : opF t = 0 := by unfold opF; rw [if_pos h]
theorem opF_el {t : ND} (h : (t.tg.toList == []) = false) : opF t = wtCode (startT t.tg t.at_) := by unfold opF; rw [h]; rfl

set_option maxRecDepth 100000 in
set_option maxHeartbeats 3200000 in
theorem l10Opens_any (a : Option Addr) (c : Nat) (l : List ND) (w : World) (ha : NsAt w a l) (hB : NB l) (hl : (l.length : Int) + nssz l ≤ 1048576) :
    Calls Tryd.prog 35 #[.slice a l.length c] w fun e w' => e = .returned (.int .i64 (opensF l)) ∧ Below w.heap.size w w' := by
  have HA := Hid.mk' ha
  clear ha
  go_enter Tryd.func35, Tryd.ntmps35
  go_wp2_with fail
  go_loopw [3] (fun i wr => ∃ k : Nat, k ≤ l.length ∧ i = .int .i64 k ∧ (∀ j, j < k → opF (ndK l j) = 0) ∧ Below w.heap.size w wr) (fun i _ => l.length - (intOf i).toNat)
  case atStart => exact ⟨0, Nat.zero_le _, rfl, (fun j h => absurd h (Nat.not_lt_zero _)), Below.refl _ _⟩
  case round =>
    obtain ⟨k, hk, rfl, hz, hb⟩ := hrel
    by_cases hlt : k < l.length
    · have HZ := Hid.mk' hz
      have HB := Hid.mk' hb
      rcases HA.out.below hb with h0 | ⟨b, o, rfl, hbs, hc⟩
      · exact absurd hlt (by rw [h0]; exact Nat.not_lt_zero _)
      obtain ⟨d0, d1, ⟨p, pc, d2, hpc, hat⟩, _⟩ := hc k hlt
      have hsz := nsz_k l k hlt
      unfold nsz at hsz
      have vb := (hB k hlt).1
      have F1 := Hid.mk' (opF_text (t := ndK l k))
      have F2 := Hid.mk' (opF_el (t := ndK l k))
      have HAT := Hid.mk' hat
      have vb := Hid.mk' vb
      clear hz hb hc hat d0
      generalize hnd : ndK l k = t at *
      obtain ⟨up, tg, at_, tx⟩ := t
      dsimp only at *
      have ci : (k : Int) < (l.length : Int) := by omega
      by_cases ht : (tg.toList == []) = true
      · have Z := Hid.mk' (F1.out ht)
        clear F1 F2
        go_wp2
        go_roundw
        case rel => exact ⟨k + 1, by omega, by go_num, (fun j hj => by
          by_cases e : j = k
          · rw [e, hnd]; exact Z.out
          · exact HZ.out j (by omega)), HB.out⟩
        case measure => simp [intOf]; omega
      · have hf : (tg.toList == []) = false := by simpa using ht
        have Z := Hid.mk' (F2.out hf)
        have KO : Hid (∀ w', Below wr.heap.size wr w' → Calls Tryd.prog 56 #[.string tg, .slice p at_.length pc] w' fun e w'' => e = .returned (.agg #[.int .i64 (wtCode (startT tg at_)), .string (wtText (startT tg at_))]) ∧ Below w'.heap.size w' w'' ∧ Below wr.heap.size wr w'') := Hid.mk' (fun w' hb => (specOT_any tg at_ p pc w' (HAT.out.below hb) vb.out hpc (by omega) (by omega)).mono (fun e w'' h => ⟨h.1, h.2, hb.trans (h.2.mono hb.size)⟩))
        have bs1 : b < wr.heap.size := hbs
        have nn1 : wr.heap.size ≠ b := by omega
        clear F1 F2 ht
        go_wp2_with fail
        go_region_held3 (fun w' => w'.cell? ⟨b, o + k * 4 + 1, none⟩ = some (.string tg) ∧ w'.cell? ⟨b, o + k * 4 + 2, none⟩ = some (.slice p at_.length pc)) (first | (simp [*]; done) | go_keep)
          ((go_at_call 56; refine (KO.out _ ?_).mono ?_; (focus (repeat (first | assumption | exact Below.refl _ _ | refine Below.drew ?_ | refine Below.alloc ?_ ?_ _ | omega | (simp; done) | (simp; omega)))); rintro e w1 ⟨rfl, hb1, hB1⟩; replace hb1 := undrew hb1; obtain ⟨hx1, hx2⟩ := bcell hb1; obtain ⟨hx3, hx4⟩ := bcell hB1; have zz1 := hb1.size; have zz3 := hB1.size; have zz2 : b < w1.heap.size := (by omega); have nn2 : w1.heap.size ≠ b := (by omega)))
        · have N1 := below_new w1 (.cells #[.int .i64 (wtCode (startT tg at_)), .string (wtText (startT tg at_))] 85)
          have HB2 := Hid.mk' (HB.out.trans ((hB1.trans (N1.mono hB1.size)).mono HB.out.size))
          have y0 : (w1.alloc (.cells #[.int .i64 (wtCode (startT tg at_)), .string (wtText (startT tg at_))] 85)).cell? ⟨w1.heap.size, 0, none⟩ = some (.int .i64 (wtCode (startT tg at_))) := by simp
          rename_i hHl
          clear hHl hb1 hB1 hx1 hx2 hx3 hx4 zz1 zz3 zz2 nn2 N1 KO
          generalize w1.alloc (.cells #[.int .i64 (wtCode (startT tg at_)), .string (wtText (startT tg at_))] 85) = W1 at *
          generalize w1.heap.size = gb at *
          generalize wtText (startT tg at_) = T at *
          generalize hC : wtCode (startT tg at_) = C at *
          by_cases h0 : C = 0
          · subst h0
            go_wp2
            go_roundw
            case rel => exact ⟨k + 1, by omega, by go_num, (fun j hj => by
              by_cases e : j = k
              · rw [e, hnd]; exact Z.out
              · exact HZ.out j (by omega)), HB2.out⟩
            case measure => simp [intOf]; omega
          · have h0b : (C != 0) = true := by simp [h0]
            go_wp2
            go_ret
            refine ⟨?_, HB2.out⟩
            have : opensF l = C := by
              unfold opensF
              rw [firstF_hit _ l.length 0 k hlt (fun j hj => by rw [Nat.zero_add]; exact HZ.out j hj) (by rw [Nat.zero_add, hnd, Z.out]; exact h0), Nat.zero_add, hnd, Z.out]
            rw [this]; rfl
        · have HB2 := Hid.mk' (HB.out.trans (((hB1.setCell (p := ⟨wr.heap.size, 0, none⟩) (by simp) (.int .i64 (wtCode (startT tg at_)))).setCell (p := ⟨wr.heap.size, 1, none⟩) (by simp) (.string (wtText (startT tg at_)))).mono HB.out.size))
          have y0 : ((w1.setCell ⟨wr.heap.size, 0, none⟩ (.int .i64 (wtCode (startT tg at_)))).setCell ⟨wr.heap.size, 1, none⟩ (.string (wtText (startT tg at_)))).cell? ⟨wr.heap.size, 0, none⟩ = some (.int .i64 (wtCode (startT tg at_))) := by
            rw [World.cell?_setCell_other _ _ _ _ (fun h => by cases h)]
            refine World.cell?_setCell_same _ _ (u := .int .i64 0) _ ?_
            rw [hx1 wr.heap.size 0 (by simp)]
            simp
          rename_i hHl
          clear hHl hb1 hB1 hx1 hx2 hx3 hx4 zz1 zz3 zz2 nn2 KO
          generalize (w1.setCell ⟨wr.heap.size, 0, none⟩ (.int .i64 (wtCode (startT tg at_)))).setCell ⟨wr.heap.size, 1, none⟩ (.string (wtText (startT tg at_))) = W1 at *
          generalize wtText (startT tg at_) = T at *
          generalize hC : wtCode (startT tg at_) = C at *
          by_cases h0 : C = 0
          · subst h0
            go_wp2
            go_roundw
            case rel => exact ⟨k + 1, by omega, by go_num, (fun j hj => by
              by_cases e : j = k
              · rw [e, hnd]; exact Z.out
              · exact HZ.out j (by omega)), HB2.out⟩
            case measure => simp [intOf]; omega
          · have h0b : (C != 0) = true := by simp [h0]
            go_wp2
            go_ret
            refine ⟨?_, HB2.out⟩
            have : opensF l = C := by
              unfold opensF
              rw [firstF_hit _ l.length 0 k hlt (fun j hj => by rw [Nat.zero_add]; exact HZ.out j hj) (by rw [Nat.zero_add, hnd, Z.out]; exact h0), Nat.zero_add, hnd, Z.out]
            rw [this]; rfl
    · have ci : ¬ (k : Int) < (l.length : Int) := by omega
      have HZ := Hid.mk' hz
      have HB := Hid.mk' hb
      clear hz hb
      go_wp2
      go_ret
      refine ⟨?_, HB.out⟩
      have : opensF l = 0 := firstF_none _ _ _ (fun j hj => by rw [Nat.zero_add]; exact HZ.out j (by omega))
      rw [this]; rfl

set_option maxRecDepth 100000 in
set_option maxHeartbeats 3200000 in
theorem opensFault_any (a : Option Addr) (c : Nat) (l : List ND) (w : World) (hr : Refs w) (ha : NsAt w a l) (hT : treeF l = 0) (hB : NB l) (hl : (l.length : Int) + nssz l ≤ 1048576) :
    Calls Tryd.prog 25 #[.slice a l.length c] w fun e w' => e = .returned (.int .i64 (opensF l)) ∧ Below w.heap.size w w' := by
  have HA := Hid.mk' ha
  have HR := Hid.mk' hr
  have HO := Hid.mk' (treeF_ones hT)
  clear ha hr hT
  go_enter Tryd.func25, Tryd.ntmps25
  go_wp2_with fail
  go_loopw [8] (fun i wr => ∃ k : Nat, k ≤ l.length ∧ i = .int .i64 k ∧ (∀ j, j < k → opF (ndK l j) = 0) ∧ Below w.heap.size w wr) (fun i _ => l.length - (intOf i).toNat)
  case atStart => exact ⟨0, Nat.zero_le _, rfl, (fun j h => absurd h (Nat.not_lt_zero _)), Below.refl _ _⟩
  case round =>
    obtain ⟨k, hk, rfl, hz, hb⟩ := hrel
    by_cases hlt : k < l.length
    · have HZ := Hid.mk' hz
      have HB := Hid.mk' hb
      have HRr := Hid.mk' (HR.out.below hb)
      rcases HA.out.below hb with h0 | ⟨b, o, rfl, hbs, hc⟩
      · exact absurd hlt (by rw [h0]; exact Nat.not_lt_zero _)
      obtain ⟨d0, d1, ⟨p, pc, d2, hpc, hat⟩, ⟨p', pc', d3, _⟩⟩ := hc k hlt
      have hsz := nsz_k l k hlt
      unfold nsz at hsz
      have vb := Hid.mk' (hB k hlt).1
      have F1 := Hid.mk' (opF_text (t := ndK l k))
      have F2 := Hid.mk' (opF_el (t := ndK l k))
      have KD := Hid.mk' (mkK_cases (ndK l k))
      have HK : Hid (kindB (ndK l k) = true) := Hid.mk' (by
        have h1 := HO.out k hlt
        unfold oneF at h1
        by_cases c : kindB (ndK l k) = true
        · exact c
        · have : markF (ndK l k) = 1 := by unfold markF; rw [if_neg c]
          rw [this] at h1
          simp at h1)
      have N1 := below_new wr (.cells #[.int .i64 (ndK l k).up, .string (ndK l k).tg, .slice p (ndK l k).at_.length pc, .slice p' (ndK l k).tx.length pc'] 49)
      have RN := Hid.mk' (row4 wr 49 (.int .i64 (ndK l k).up) (.string (ndK l k).tg) (.slice p (ndK l k).at_.length pc) (.slice p' (ndK l k).tx.length pc'))
      have HAT := Hid.mk' (hat.below N1)
      have HN1 := Hid.mk' N1
      have KM := Hid.mk' (fun w' => markOf_any (ndK l k) p p' pc pc' w')
      have ci : (k : Int) < (l.length : Int) := by omega
      clear hz hb hc hat N1
      generalize hnd : ndK l k = t at *
      generalize hW : wr.alloc (.cells #[.int .i64 t.up, .string t.tg, .slice p t.at_.length pc, .slice p' t.tx.length pc'] 49) = W at *
      obtain ⟨r0, r1, r2, r3, r4⟩ := cells4 RN.out
      go_wp2_with fail
      clear hW
      refine (KM.out W).mono ?_
      rintro e w1 ⟨rfl, hb1⟩
      have HB1 := Hid.mk' hb1
      have vS : ∃ x y z, mkV t (.slice p t.at_.length pc) = .slice x y z := by
        unfold mkV
        split
        · exact ⟨_, _, _, rfl⟩
        · exact ⟨_, _, _, rfl⟩
      obtain ⟨v1, v2, v3, hv⟩ := vS
      rw [hv]
      clear hb1 r0 r1 r2 r3 r4 hv
      go_wp2_with fail
      refine (isText_any _ _ _ w1).mono ?_
      rintro e w2 ⟨rfl, hb2⟩
      have B2 := HB1.out.trans (hb2.mono HB1.out.size)
      have HB2 := Hid.mk' (HB.out.trans ((HN1.out.trans (B2.mono HN1.out.size)).mono HB.out.size))
      have RN2 := Hid.mk' (rowB RN.out B2)
      have HAT2 := Hid.mk' (HAT.out.below B2)
      have HRF := Hid.mk' (HRr.out.below (HN1.out.trans (B2.mono HN1.out.size)))
      clear hb2 B2 HB1 RN HAT HRr KM
      by_cases ht : (t.tg.toList == []) = true
      · have Z := Hid.mk' (F1.out ht)
        have hk2 : mkK t = 2 := by
          rcases KD.out with ⟨q1, _⟩ | ⟨_, _, q3⟩ | ⟨_, q2, _⟩
          · rw [HK.out] at q1; exact absurd q1 (by decide)
          · exact q3
          · rw [ht] at q2; exact absurd q2 (by decide)
        rw [hk2]
        clear F1 F2 KD HK
        go_wp2
        go_roundw
        case rel => exact ⟨k + 1, by omega, by go_num, (fun j hj => by
          by_cases e : j = k
          · rw [e, hnd]; exact Z.out
          · exact HZ.out j (by omega)), HB2.out⟩
        case measure => simp [intOf]; omega
      · have hf : (t.tg.toList == []) = false := by simpa using ht
        have Z := Hid.mk' (F2.out hf)
        have hk2 : mkK t = 1 := by
          rcases KD.out with ⟨q1, _⟩ | ⟨_, q2, _⟩ | ⟨_, _, q3⟩
          · rw [HK.out] at q1; exact absurd q1 (by decide)
          · exact absurd q2 ht
          · exact q3
        have KO := Hid.mk' (implOT_any t.tg t.at_ p pc w2 HRF.out HAT2.out vb.out (by omega) (by omega))
        rw [hk2]
        obtain ⟨r0, r1, r2, r3, r4⟩ := cells4 RN2.out
        clear F1 F2 KD HK HAT2 HRF
        go_wp2_with fail
        refine KO.out.mono ?_
        rintro e w3 ⟨rfl, hb3⟩
        have N3 := below_new w3 (.cells #[.int .i64 (wtCode (startT t.tg t.at_)), .string (wtText (startT t.tg t.at_))] 85)
        have HB3 := Hid.mk' (HB2.out.trans ((hb3.trans (N3.mono hb3.size)).mono HB2.out.size))
        have RT := rowR w3 85 (.int .i64 (wtCode (startT t.tg t.at_))) (.string (wtText (startT t.tg t.at_)))
        clear hb3 N3 KO RN2 HB2 r0 r1 r2 r3 r4
        generalize hW3 : w3.alloc (.cells #[.int .i64 (wtCode (startT t.tg t.at_)), .string (wtText (startT t.tg t.at_))] 85) = W3 at *
        obtain ⟨y0, y1, y2, y3, y4⟩ := cellsR RT
        generalize wtText (startT t.tg t.at_) = T at *
        generalize hC : wtCode (startT t.tg t.at_) = C at *
        by_cases h0 : C = 0
        · subst h0
          go_wp2
          go_roundw
          case rel => exact ⟨k + 1, by omega, by go_num, (fun j hj => by
            by_cases e : j = k
            · rw [e, hnd]; exact Z.out
            · exact HZ.out j (by omega)), HB3.out⟩
          case measure => simp [intOf]; omega
        · have h0b : (C != 0) = true := by simp [h0]
          go_wp2
          go_ret
          refine ⟨?_, HB3.out⟩
          have : opensF l = C := by
            unfold opensF
            rw [firstF_hit _ l.length 0 k hlt (fun j hj => by rw [Nat.zero_add]; exact HZ.out j hj) (by rw [Nat.zero_add, hnd, Z.out]; exact h0), Nat.zero_add, hnd, Z.out]
          rw [this]; rfl
    · have ci : ¬ (k : Int) < (l.length : Int) := by omega
      have HZ := Hid.mk' hz
      have HB := Hid.mk' hb
      clear hz hb
      go_wp2
      go_ret
      refine ⟨?_, HB.out⟩
      have : opensF l = 0 := firstF_none _ _ _ (fun j hj => by rw [Nat.zero_add]; exact HZ.out j (by omega))
      rw [this]; rfl
end Go.Proofs.YtcjnfodkppcpoaaDoor
