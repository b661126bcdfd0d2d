/- Both sides' BuildFault. -/
import Derived.Test.YtpncbcmngfpkfaaJa
import Derived.Test.YtpncbcmngfpkfaaGn
namespace Go.Proofs.Ytpncbcmngfpkfaa
open Go.RowKit
set_option linter.unusedVariables false
set_option linter.unusedSimpArgs false

/-- The one ahead of the k-th that is open; -1: none is. -/
def aheadI (op : List Int) (k : Nat) : Int := if k = 0 then -1 else wv op (k - 1)

theorem aheadI_succ (op : List Int) (k : Nat) : aheadI op (k + 1) = wv op k := by unfold aheadI; rw [if_neg (by omega)]; rfl

/-- What is wrong with the k-th that is open. -/
def openF (l : List ND) (op : List Int) (k : Nat) : Int :=
  if 0 ≤ wv op k ∧ wv op k < (l.length : Int) then (if (ndK l (wv op k).toNat).up = aheadI op k ∧ holdB (ndK l (wv op k).toNat) = true then 0 else 1) else 3

def opensF (l : List ND) (op : List Int) : Int := firstF (openF l op) op.length 0

/-- What is wrong with all that is open. -/
def restF (l : List ND) (op : List Int) : Int :=
  if opensF l op = 0 then (if 7 < op.length then 2 else if 0 < op.length ∧ inW (wayU (upF l) l.length) (aheadI op op.length) = false then 1 else 0) else opensF l op

/-- The code of a state. -/
def bldF (s : BS) : Int :=
  if treeF s.nd = 0 then (if s.lg = true ∧ (0 < s.nd.length ∨ 0 < s.op.length) then 1 else restF s.nd s.op) else treeF s.nd

theorem openF_out {l : List ND} {op : List Int} {k : Nat} (h : ¬ (0 ≤ wv op k ∧ wv op k < (l.length : Int))) : openF l op k = 3 := by unfold openF; rw [if_neg h]
theorem openF_no {l : List ND} {op : List Int} {k m : Nat} (hm : wv op k = (m : Int)) (hl : m < l.length) (h : ¬ ((ndK l m).up = aheadI op k ∧ holdB (ndK l m) = true)) : openF l op k = 1 := by
  unfold openF; rw [hm, if_pos ⟨by omega, by omega⟩, Int.toNat_natCast, if_neg h]
theorem openF_yes {l : List ND} {op : List Int} {k m : Nat} (hm : wv op k = (m : Int)) (hl : m < l.length) (h1 : (ndK l m).up = aheadI op k) (h2 : holdB (ndK l m) = true) : openF l op k = 0 := by
  unfold openF; rw [hm, if_pos ⟨by omega, by omega⟩, Int.toNat_natCast, if_pos ⟨h1, h2⟩]

theorem opensF_hit {l : List ND} {op : List Int} {k : Nat} {c : Int} (hk : k < op.length) (hz : ∀ j, j < k → openF l op j = 0) (hc : openF l op k = c) (h0 : ¬ c = 0) : opensF l op = c := by
  unfold opensF
  rw [firstF_hit (openF l op) op.length 0 k hk (fun j hj => by rw [Nat.zero_add]; exact hz j hj) (by rw [Nat.zero_add, hc]; exact h0), Nat.zero_add, hc]
theorem opensF_none {l : List ND} {op : List Int} (hz : ∀ j, j < op.length → openF l op j = 0) : opensF l op = 0 := by
  unfold opensF
  exact firstF_none _ _ _ (fun j hj => by rw [Nat.zero_add]; exact hz j hj)
theorem restF_hit {l : List ND} {op : List Int} {c : Int} (h : opensF l op = c) (h0 : ¬ c = 0) : restF l op = c := by unfold restF; rw [h, if_neg h0]
theorem restF_many {l : List ND} {op : List Int} (h : opensF l op = 0) (h7 : 7 < op.length) : restF l op = 2 := by unfold restF; rw [if_pos h, if_pos h7]

theorem inW_none {l : List ND} (h : treeF l = 0) : inW (wayU (upF l) l.length) (-1) = true := by
  have G := (treeF_ways h).good
  have := ixF_found (wayU (upF l) l.length) (-1) 0 G.ne (fun j hj => absurd hj (Nat.not_lt_zero _)) G.hd
  unfold inW; rw [this]; exact decide_eq_true G.ne

theorem restF_end {l : List ND} {op : List Int} (ht : treeF l = 0) (h : opensF l op = 0) (h7 : ¬ 7 < op.length) : restF l op = if inW (wayU (upF l) l.length) (aheadI op op.length) = true then 0 else 1 := by
  unfold restF
  rw [if_pos h, if_neg h7]
  by_cases h0 : 0 < op.length
  · by_cases e : inW (wayU (upF l) l.length) (aheadI op op.length) = true
    · rw [if_neg (by rw [e]; simp), if_pos e]
    · rw [if_pos ⟨h0, by simpa using e⟩, if_neg e]
  · have e : aheadI op op.length = -1 := by unfold aheadI; rw [if_pos (by omega)]
    rw [if_neg (by omega), e, inW_none ht, if_pos rfl]

set_option maxHeartbeats 800000 in
theorem containsI_any (a : Option Addr) (c : Nat) (l : List Int) (x : Int) (w : World) (ha : IAt w a l) (hl : (l.length : Int) ≤ 1048576) :
    Calls Try.prog 36 #[.slice a l.length c, .int .i64 x] w fun e w' => e = .returned (.bool (inW l x)) ∧ w' = w := by
  have K := Hid.mk' (indexI_any a c l x w ha hl)
  have E : Hid (decide (ixI l x ≥ 0) = inW l x) := Hid.mk' (by
    unfold ixI inW
    by_cases h : ixF l x < l.length
    · rw [if_pos h, decide_eq_true h]; exact decide_eq_true (by omega)
    · rw [if_neg h, decide_eq_false h]; rfl)
  clear ha
  generalize ixI l x = y at *
  go_enter Try.func36, Try.ntmps36
  go_wp2_with fail
  refine K.out.mono ?_
  rintro e w1 ⟨rfl, hw⟩
  obtain rfl := hw.symm
  clear K
  go_wp2
  go_ret
  exact ⟨by rw [← E.out]; rfl, rfl⟩

set_option maxHeartbeats 3200000 in
theorem openFault_any (w0 : World) (base g : Nat) (l : List ND) (pa : Nat → Option Addr) (ca : Nat → Nat) (vn vw : Value) (p : Option Addr) (d : Nat) (op : List Int) (w : World) (h : TT w0 base g l pa ca l.length vn vw w) (ht : treeF l = 0) (hp : IAt w p op) (ho : (op.length : Int) ≤ 1048576) :
    Calls Try.prog 18 #[.pointer (some ⟨g, 0, none⟩), .slice p op.length d] w fun e w' => e = .returned (.int .i64 (restF l op)) ∧ Below w.heap.size w w' := by
  have h60 := treeF_len ht
  have HT := Hid.mk' h
  have HP := Hid.mk' hp
  have H0 := Hid.mk' ht
  have G := (treeF_ways ht).good
  have gle := G.le
  have gne := G.ne
  obtain ⟨an, cn, ev, _⟩ := own_len h.on
  subst ev
  obtain ⟨aw, cw, ev, _⟩ := own_len h.ow
  subst ev
  clear h hp ht G
  go_enter Try.func18, Try.ntmps18
  go_wp2
  go_loopw [5, 10] (fun x i wr => ∃ k : Nat, k ≤ op.length ∧ i = .int .i64 k ∧ x = .int .i64 (aheadI op k) ∧ (∀ j, j < k → openF l op j = 0) ∧ Below w.heap.size w wr) (fun _ i _ => op.length - (intOf i).toNat)
  case atStart => exact ⟨0, Nat.zero_le _, rfl, rfl, fun j h => absurd h (Nat.not_lt_zero _), Below.refl _ _⟩
  case round =>
    obtain ⟨k, hk, rfl, rfl, hz, hbl⟩ := hrel
    have HZ := Hid.mk' hz
    have HB := Hid.mk' hbl
    have HT2 := Hid.mk' (HT.out.below hbl)
    obtain ⟨t0, t1, t2⟩ := cells2 HT2.out.box
    by_cases hlt : k < op.length
    · have ci : (k : Int) < (op.length : Int) := by omega
      rcases HP.out.below hbl with ha | ⟨b1, o1, rfl, s1, hc1⟩
      · exact absurd hlt (by rw [ha]; exact Nat.not_lt_zero _)
      have x0 := hc1 k hlt
      have KH := hasPlace_any g an l.length cn (wv op k) wr t0
      clear hbl hc1 hz
      by_cases hr : 0 ≤ wv op k ∧ wv op k < (l.length : Int)
      rotate_left
      · have E : Hid (restF l op = 3) := Hid.mk' (restF_hit (opensF_hit hlt HZ.out (openF_out hr) (by decide)) (by decide))
        rw [show (decide (wv op k ≥ 0) && decide (wv op k < (l.length : Int))) = false by simp; omega] at KH
        have KH := Hid.mk' KH
        generalize wv op k = x at *
        clear hr
        go_wp2_with fail
        refine KH.out.mono ?_
        rintro e w2 ⟨rfl, hw⟩
        obtain rfl := hw.symm
        go_wp2
        go_ret
        exact ⟨by rw [E.out]; rfl, HB.out⟩
      rw [show (decide (wv op k ≥ 0) && decide (wv op k < (l.length : Int))) = true by simp; omega] at KH
      obtain ⟨m, hm⟩ : ∃ m : Nat, wv op k = (m : Int) := ⟨(wv op k).toNat, by omega⟩
      have hml : m < l.length := by omega
      have mi_ : (m : Int) < (l.length : Int) := by omega
      obtain ⟨nb, cap, ev, _, nl, hnode⟩ := HT2.out.node (by omega)
      cases ev
      obtain ⟨d0, d1, d2, d3, d4⟩ := hnode m hml
      obtain ⟨p9, n9, c9, hV⟩ := mkV_slice (ndK l m) l pa ca m
      rw [hV] at d2
      have hkd : (decide (mkK (ndK l m) = 1) && !voidB (mkS (ndK l m))) = holdB (ndK l m) := hold_mk (mark_kind (one_mark (treeF_ones H0.out m hml)))
      have HM := Hid.mk' hm
      have F1 : Hid (¬ ((ndK l m).up = aheadI op k ∧ holdB (ndK l m) = true) → restF l op = 1) := Hid.mk' (fun hn => restF_hit (opensF_hit hlt HZ.out (openF_no HM.out hml hn) (by decide)) (by decide))
      have F2 : Hid ((ndK l m).up = aheadI op k → holdB (ndK l m) = true → openF l op k = 0) := Hid.mk' (fun a b => openF_yes HM.out hml a b)
      have AS : Hid (aheadI op (k + 1) = (m : Int)) := Hid.mk' (by rw [aheadI_succ]; exact HM.out)
      rw [hm] at KH x0
      have KH := Hid.mk' KH
      have KM : Hid (∀ w', Calls Try.prog 35 #[.agg #[.int .i64 (mkK (ndK l m)), .string (mkS (ndK l m)), .slice p9 n9 c9]] w' fun e w'' => e = .returned (.bool (holdB (ndK l m))) ∧ Below w'.heap.size w' w'') := fun w' => by
        have := mayHold_any (mkK (ndK l m)) (mkS (ndK l m)) (.slice p9 n9 c9) w'
        rw [hkd] at this
        exact this
      clear hr hm hnode hV hkd
      generalize hup : (ndK l m).up = up at *
      generalize hah : aheadI op k = ah at *
      generalize hhd : holdB (ndK l m) = hd at *
      by_cases e1 : up = ah
      rotate_left
      · have e2 : (up != ah) = true := by simp [e1]
        have E : Hid (restF l op = 1) := Hid.mk' (F1.out (fun h => e1 h.1))
        clear e1 F1 F2 hup hah hhd
        go_wp2_with fail
        refine KH.out.mono ?_
        rintro e w2 ⟨rfl, hw⟩
        obtain rfl := hw.symm
        go_wp2_with (first | go_big_skip)
        go_ret
        exact ⟨by rw [E.out]; rfl, HB.out⟩
      have e2 : (up != ah) = false := by simp [e1]
      cases hd with
      | false =>
        have E : Hid (restF l op = 1) := Hid.mk' (F1.out (fun h => absurd h.2 (by simp)))
        clear e1 F1 F2 hup hah hhd
        go_wp2_with fail
        refine KH.out.mono ?_
        rintro e w2 ⟨rfl, hw⟩
        obtain rfl := hw.symm
        go_wp2_with (first | go_big_skip | fail)
        refine (KM.out _).mono ?_
        rintro e w3 ⟨rfl, hb⟩
        have HB := Hid.mk' (HB.out.trans (hb.mono HB.out.size))
        clear hb
        go_wp2_with (first | go_big_skip)
        go_ret
        exact ⟨by rw [E.out]; rfl, HB.out⟩
      | true =>
        have E : Hid (openF l op k = 0) := Hid.mk' (F2.out e1 rfl)
        clear e1 F1 F2 hup hah hhd
        go_wp2_with fail
        refine KH.out.mono ?_
        rintro e w2 ⟨rfl, hw⟩
        obtain rfl := hw.symm
        go_wp2_with (first | go_big_skip | fail)
        refine (KM.out _).mono ?_
        rintro e w3 ⟨rfl, hb⟩
        have HB := Hid.mk' (HB.out.trans (hb.mono HB.out.size))
        clear hb
        go_wp2_with (first | go_big_skip)
        go_roundw
        case rel => exact ⟨k + 1, by omega, by go_num, by rw [AS.out], fun j hj => by
          by_cases h : j = k
          · subst h; exact E.out
          · exact HZ.out j (by omega), HB.out⟩
        case measure => simp [intOf]; omega
    · have ci : ¬ (k : Int) < (op.length : Int) := by omega
      have e : k = op.length := by omega
      subst e
      have OZ := opensF_none HZ.out
      clear hz
      by_cases h7 : 7 < op.length
      · have E : Hid (restF l op = 2) := Hid.mk' (restF_many OZ h7)
        have h7' : (op.length : Int) > 7 := by omega
        clear OZ hbl
        go_wp2
        go_ret
        exact ⟨by rw [E.out]; rfl, HB.out⟩
      · have h7' : ¬ (op.length : Int) > 7 := by omega
        have EE := Hid.mk' (restF_end H0.out OZ h7)
        obtain ⟨bw, cap, ev, w1_, w2_, w3_, hIA⟩ := own_iat HT2.out.ow gne
        cases ev
        have KC := Hid.mk' (containsI_any _ cw _ (aheadI op op.length) wr hIA (by omega))
        clear OZ hbl hIA w1_ w3_
        generalize hah : aheadI op op.length = ah at *
        generalize hin : inW (wayU (upF l) l.length) ah = iw at *
        go_wp2_with fail
        refine KC.out.mono ?_
        rintro e w2 ⟨rfl, hw⟩
        obtain rfl := hw.symm
        clear KC hin hah
        cases iw with
        | true =>
          go_wp2
          go_ret
          exact ⟨by rw [EE.out]; rfl, HB.out⟩
        | false =>
          go_wp2
          go_ret
          exact ⟨by rw [EE.out]; rfl, HB.out⟩

set_option maxHeartbeats 1600000 in
theorem implBF_any (s : BS) (a p : Option Addr) (c d : Nat) (w : World) (ha : SAt w a p s) (hl : (s.nd.length : Int) + nssz s.nd + s.op.length ≤ 1048576) :
    Calls Try.prog 8 #[.agg #[.slice a s.nd.length c, .slice p s.op.length d, .bool s.lg]] w fun e w' => e = .returned (.int .i64 (bldF s)) ∧ Below w.heap.size w w' := by
  have N0 := below_new w (.cells #[.slice a s.nd.length c, .slice p s.op.length d, .bool s.lg] 30)
  have KF := Hid.mk' (treeOf_any a c s.nd _ (ha.1.below N0) (by omega))
  have RB := Hid.mk' (row3 w 30 (.slice a s.nd.length c) (.slice p s.op.length d) (.bool s.lg))
  have HN := Hid.mk' N0
  have HP := Hid.mk' (ha.2.below N0)
  clear ha N0
  generalize hW : w.alloc (.cells #[.slice a s.nd.length c, .slice p s.op.length d, .bool s.lg] 30) = W at *
  obtain ⟨x0, x1, x2, x3⟩ := cells3 RB.out
  go_enter Try.func8, Try.ntmps8
  go_wp2_with fail
  clear hW
  refine KF.out.mono ?_
  rintro e w1 (⟨h0, rfl, hb⟩ | ⟨h0, pa, ca, g, vn, vw, rfl, hT⟩)
  · have E : Hid (bldF s = treeF s.nd) := Hid.mk' (by unfold bldF; rw [if_neg h0])
    have HB := Hid.mk' (HN.out.trans (hb.mono HN.out.size))
    clear hb KF x0 x1 x2 x3
    go_wp2
    go_ret
    exact ⟨by rw [E.out]; rfl, HB.out.alloc HB.out.size _⟩
  · obtain ⟨an, cn, ev, _⟩ := own_len hT.on
    subst ev
    obtain ⟨aw, cw, ev, _⟩ := own_len hT.ow
    subst ev
    have N2 := below_new w1 (.cells #[.slice an s.nd.length cn, .slice aw (wayU (upF s.nd) s.nd.length).length cw] 43)
    have HT2 := Hid.mk' (hT.rebox N2 (Nat.le_refl _) (rowp2 w1 43 (.slice an s.nd.length cn) (.slice aw (wayU (upF s.nd) s.nd.length).length cw)))
    have hb := hT.bl.trans (N2.mono hT.bl.size)
    have HB := Hid.mk' (HN.out.trans (hb.mono HN.out.size))
    have H1 := Hid.mk' (rowB RB.out hb)
    have HP := Hid.mk' (HP.out.below hb)
    have H0 := Hid.mk' h0
    clear hT N2 KF hb x0 x1 x2 x3 h0
    generalize hW2 : w1.alloc (.cells #[.slice an s.nd.length cn, .slice aw (wayU (upF s.nd) s.nd.length).length cw] 43) = W2 at *
    obtain ⟨x0, x1, x2, x3⟩ := cells3 H1.out
    have KO := Hid.mk' (openFault_any W W.heap.size w1.heap.size s.nd pa ca _ _ p d s.op W2 HT2.out H0.out HP.out (by omega))
    have E0 : Hid (bldF s = if s.lg = true ∧ (0 < s.nd.length ∨ 0 < s.op.length) then 1 else restF s.nd s.op) := Hid.mk' (by unfold bldF; rw [if_pos H0.out])
    by_cases hbad : s.lg = true ∧ (0 < s.nd.length ∨ 0 < s.op.length)
    · have E : Hid (bldF s = 1) := Hid.mk' (by rw [E0.out, if_pos hbad])
      obtain ⟨hlg, hor⟩ := hbad
      rw [hlg] at x2
      clear hlg
      by_cases hn : 0 < s.nd.length
      · have hn' : decide (0 < s.nd.length) = true := decide_eq_true hn
        clear hn hor
        go_wp2_with (first | go_big_skip)
        clear hW2
        go_ret
        exact ⟨by rw [E.out]; rfl, HB.out⟩
      · have ho' : decide (0 < s.op.length) = true := decide_eq_true (by omega)
        have hn' : decide (0 < s.nd.length) = false := decide_eq_false hn
        clear hn hor
        go_wp2_with (first | go_big_skip)
        clear hW2
        go_ret
        exact ⟨by rw [E.out]; rfl, HB.out⟩
    · have E : Hid (bldF s = restF s.nd s.op) := Hid.mk' (by rw [E0.out, if_neg hbad])
      cases hlg : s.lg with
      | false =>
        rw [hlg] at x2
        clear hlg hbad
        go_wp2_with (first | go_big_skip | fail)
        clear hW2
        refine KO.out.mono ?_
        rintro e w3 ⟨rfl, hb⟩
        have HB := Hid.mk' (HB.out.trans (hb.mono HB.out.size))
        clear hb KO
        go_wp2
        go_ret
        exact ⟨by rw [E.out]; rfl, HB.out⟩
      | true =>
        have hn' : decide (0 < s.nd.length) = false := decide_eq_false fun h => hbad ⟨hlg, .inl h⟩
        have ho' : decide (0 < s.op.length) = false := decide_eq_false fun h => hbad ⟨hlg, .inr h⟩
        rw [hlg] at x2
        clear hlg hbad
        go_wp2_with (first | go_big_skip | fail)
        clear hW2
        refine KO.out.mono ?_
        rintro e w3 ⟨rfl, hb⟩
        have HB := Hid.mk' (HB.out.trans (hb.mono HB.out.size))
        clear hb KO
        go_wp2
        go_ret
        exact ⟨by rw [E.out]; rfl, HB.out⟩

set_option maxHeartbeats 800000 in
theorem l7Top_any (p : Option Addr) (d : Nat) (op : List Int) (w : World) (hp : IAt w p op) (ho : (op.length : Int) ≤ 1048576) :
    Calls Try.prog 28 #[.slice p op.length d] w fun e w' => e = .returned (.int .i64 (aheadI op op.length)) ∧ w' = w := by
  by_cases h0 : op.length = 0
  · have E : Hid (aheadI op op.length = -1) := Hid.mk' (by unfold aheadI; rw [if_pos h0])
    have h0' : (op.length : Int) = 0 := by omega
    go_enter Try.func28, Try.ntmps28
    go_wp2
    go_ret
    exact ⟨by rw [E.out]; rfl, rfl⟩
  · rcases hp with ha | ⟨b1, o1, rfl, s1, hc1⟩
    · exact absurd (by rw [ha]; rfl) h0
    obtain ⟨m, hm⟩ : ∃ m, op.length = m + 1 := ⟨op.length - 1, by omega⟩
    have E : Hid (aheadI op op.length = wv op m) := Hid.mk' (by rw [hm, aheadI_succ])
    have x0 := hc1 m (by omega)
    have h0' : ((op.length : Int) == 0) = false := by simpa using (show ¬ (op.length : Int) = 0 by omega)
    have hm' : (op.length : Int) - 1 = (m : Int) := by omega
    have hlt : (m : Int) < (op.length : Int) := by omega
    clear hc1 hm h0
    go_enter Try.func28, Try.ntmps28
    go_wp2
    go_ret
    exact ⟨by rw [E.out]; rfl, rfl⟩

set_option maxHeartbeats 3200000 in
theorem l7Opened_any (s : BS) (g : Nat) (a p : Option Addr) (c d : Nat) (w : World) (hr : w.rowIs g 30 3 (r3 (.slice a s.nd.length c) (.slice p s.op.length d) (.bool s.lg))) (ha : SAt w a p s) (hl : (s.nd.length : Int) + nssz s.nd + s.op.length ≤ 1048576) :
    Calls Try.prog 26 #[.pointer (some ⟨g, 0, none⟩)] w fun e w' => e = .returned (.int .i64 (opensF s.nd s.op)) ∧ w' = w := by
  have HA := Hid.mk' ha
  obtain ⟨x0, x1, x2, x3⟩ := cells3 hr
  have KV : Hid (∀ (t : ByteArray) (w' : World), Calls Try.prog 45 #[.string t] w' fun e w'' => e = .returned (.bool (voidB t)) ∧ w'' = w') := fun t w' => l6Void_any t w'
  clear ha hr
  go_enter Try.func26, Try.ntmps26
  go_wp2
  go_loop [3, 4] (fun x i => ∃ k : Nat, k ≤ s.op.length ∧ i = .int .i64 k ∧ x = .int .i64 (aheadI s.op k) ∧ (∀ j, j < k → openF s.nd s.op j = 0)) (fun _ i => s.op.length - (intOf i).toNat)
  case atStart => exact ⟨0, Nat.zero_le _, rfl, rfl, fun j h => absurd h (Nat.not_lt_zero _)⟩
  case round =>
    obtain ⟨k, hk, rfl, rfl, hz⟩ := hrel
    have HZ := Hid.mk' hz
    by_cases hlt : k < s.op.length
    · have ci : (k : Int) < (s.op.length : Int) := by omega
      rcases HA.out.2 with hn | ⟨b1, o1, rfl, s1, hc1⟩
      · exact absurd hlt (by rw [hn]; exact Nat.not_lt_zero _)
      have u0 := hc1 k hlt
      have KI := l1In_any (wv s.op k) 0 ((s.nd.length : Int) - 1) w
      clear hc1 hz
      by_cases hr : 0 ≤ wv s.op k ∧ wv s.op k < (s.nd.length : Int)
      rotate_left
      · have E : Hid (opensF s.nd s.op = 3) := Hid.mk' (opensF_hit hlt HZ.out (openF_out hr) (by decide))
        rw [show (decide (0 ≤ wv s.op k) && decide (wv s.op k ≤ (s.nd.length : Int) - 1)) = false by simp; omega] at KI
        have KI := Hid.mk' KI
        generalize wv s.op k = x at *
        clear hr
        go_wp2_with fail
        refine KI.out.mono ?_
        rintro e w2 ⟨rfl, hw⟩
        obtain rfl := hw.symm
        go_wp2
        go_ret
        exact ⟨by rw [E.out]; rfl, rfl⟩
      rw [show (decide (0 ≤ wv s.op k) && decide (wv s.op k ≤ (s.nd.length : Int) - 1)) = true by simp; omega] at KI
      obtain ⟨m, hm⟩ : ∃ m : Nat, wv s.op k = (m : Int) := ⟨(wv s.op k).toNat, by omega⟩
      have hml : m < s.nd.length := by omega
      have mi_ : (m : Int) < (s.nd.length : Int) := by omega
      rcases HA.out.1 with hn | ⟨nb, o, rfl, nl, hnode⟩
      · exact absurd hml (by rw [hn]; exact Nat.not_lt_zero _)
      obtain ⟨d0, d1, _, _⟩ := hnode m hml
      have HM := Hid.mk' hm
      have F1 : Hid (¬ ((ndK s.nd m).up = aheadI s.op k ∧ holdB (ndK s.nd m) = true) → opensF s.nd s.op = 1) := Hid.mk' (fun hn => opensF_hit hlt HZ.out (openF_no HM.out hml hn) (by decide))
      have F2 : Hid ((ndK s.nd m).up = aheadI s.op k → holdB (ndK s.nd m) = true → openF s.nd s.op k = 0) := Hid.mk' (fun a b => openF_yes HM.out hml a b)
      have AS : Hid (aheadI s.op (k + 1) = (m : Int)) := Hid.mk' (by rw [aheadI_succ]; exact HM.out)
      have HD : Hid (holdB (ndK s.nd m) = (!((ndK s.nd m).tg.toList == []) && !voidB (ndK s.nd m).tg)) := Hid.mk' rfl
      have KT := Hid.mk' (KV.out (ndK s.nd m).tg w)
      rw [hm] at KI u0
      have KI := Hid.mk' KI
      clear hr hm hnode
      generalize hup : (ndK s.nd m).up = up at *
      generalize hah : aheadI s.op k = ah at *
      generalize htg : (ndK s.nd m).tg = tg at *
      by_cases e1 : up = ah
      rotate_left
      · have e2 : (up != ah) = true := by simp [e1]
        have E : Hid (opensF s.nd s.op = 1) := Hid.mk' (F1.out (fun h => e1 h.1))
        clear e1 F1 F2 hup hah htg
        go_wp2_with fail
        refine KI.out.mono ?_
        rintro e w2 ⟨rfl, hw⟩
        obtain rfl := hw.symm
        go_wp2_with (first | go_big_skip)
        go_ret
        exact ⟨by rw [E.out]; rfl, rfl⟩
      have e2 : (up != ah) = false := by simp [e1]
      cases h3 : (tg.toList == []) with
      | true =>
        have E : Hid (opensF s.nd s.op = 1) := Hid.mk' (F1.out (fun h => absurd h.2 (by rw [HD.out, h3]; simp)))
        clear e1 F1 F2 hup hah htg HD
        go_wp2_with fail
        refine KI.out.mono ?_
        rintro e w2 ⟨rfl, hw⟩
        obtain rfl := hw.symm
        go_wp2_with (first | go_big_skip)
        go_ret
        exact ⟨by rw [E.out]; rfl, rfl⟩
      | false =>
        cases h4 : voidB tg with
        | true =>
          rw [h4] at KT
          have E : Hid (opensF s.nd s.op = 1) := Hid.mk' (F1.out (fun h => absurd h.2 (by rw [HD.out, h4]; simp)))
          clear e1 F1 F2 hup hah htg HD h4
          go_wp2_with fail
          refine KI.out.mono ?_
          rintro e w2 ⟨rfl, hw⟩
          obtain rfl := hw.symm
          go_wp2_with (first | go_big_skip | (go_at_call 45; refine KT.out.mono ?_; rintro e w9 ⟨rfl, hw9⟩; obtain rfl := hw9.symm))
          go_ret
          exact ⟨by rw [E.out]; rfl, rfl⟩
        | false =>
          rw [h4] at KT
          have E : Hid (openF s.nd s.op k = 0) := Hid.mk' (F2.out e1 (by rw [HD.out, h3, h4]; rfl))
          clear e1 F1 F2 hup hah htg HD h4
          go_wp2_with fail
          refine KI.out.mono ?_
          rintro e w2 ⟨rfl, hw⟩
          obtain rfl := hw.symm
          go_wp2_with (first | go_big_skip | (go_at_call 45; refine KT.out.mono ?_; rintro e w9 ⟨rfl, hw9⟩; obtain rfl := hw9.symm))
          go_round
          case rel => exact ⟨k + 1, by omega, by go_num, by rw [AS.out], fun j hj => by
            by_cases h : j = k
            · subst h; exact E.out
            · exact HZ.out j (by omega)⟩
          case measure => simp [intOf]; omega
    · have ci : ¬ (k : Int) < (s.op.length : Int) := by omega
      have e : k = s.op.length := by omega
      subst e
      have E : Hid (opensF s.nd s.op = 0) := Hid.mk' (opensF_none HZ.out)
      clear hz
      go_wp2
      go_ret
      exact ⟨by rw [E.out]; rfl, rfl⟩

end Go.Proofs.Ytpncbcmngfpkfaa
