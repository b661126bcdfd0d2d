/- The model's lexer: a byte behind a held tag, where no tag is read. -/
import Derived.Test.YtlaeomnacgjcgaaS16
import Derived.Test.YtlaeomnacgjcgaaS14
set_option linter.unusedVariables false
set_option linter.unusedSimpArgs false
namespace Go.Proofs.Ytlaeomnacgjcgaa
open Go.RowKit

theorem feed_next {w w2 w3 : World} {m : List Int} {b : Int} {v : Value} (hb : Below w.heap.size w w2) (ho : w3.ownsRow w2.heap.size 89 5 v m.length (tcs (bytesT m) (nils m.length))) (h3 : Below w2.heap.size w2 w3) :
    FeedB m [b] w (.returned (.tuple #[v, .slice (some ⟨w3.heap.size, 0, none⟩) 1 1])) (w3.alloc (.cells #[.int .u8 b] 5)) := by
  have hs : w.heap.size ≤ w3.heap.size := Nat.le_trans hb.size h3.size
  refine ⟨_, _, rfl, (own_down ho hb.size).alloc _, ?_, fun k e1 e2 => ?_, (hb.trans (h3.mono hb.size)).alloc hs _⟩
  · exact World.ownsRow_lit (base := w.heap.size) (e := 5) (size := 1) w3 #[.int .u8 b] 1 hs (by unfold maxLen; omega) rfl
  · have := (ho.lt k e1).2
    simp [Value.ownBlock] at e2
    omega

set_option maxRecDepth 100000 in
set_option maxHeartbeats 1600000 in
theorem l5Tag_o1 (a : Option Addr) (c : Nat) (l : List Int) (b : Nat) (w : World) (ha : BAt w a l) (hu : Byt l) (hc : l.length ≤ c) (hl : l.length ≤ 200) (hb : b ≤ 255) (h1 : ¬ b = 62) (h2 : ¬ b = 60) (h6 : 160 ≤ l.length + 1) :
    Calls Try.prog 77 #[.slice a l.length c, .int .u8 b] w fun e w' => FeedB (l ++ [(b : Int)]) [] w e w' := by
  obtain ⟨m, hm⟩ : ∃ m, m = l ++ [(b : Int)] := ⟨_, rfl⟩
  rw [← hm]
  have lm : m.length = l.length + 1 := by rw [hm]; simp
  have hum : Hid (Byt m) := Hid.mk' (by rw [hm]; exact hu.snoc b hb)
  have HM : Hid (bcs m = bcs l ++ [.int .u8 b]) := Hid.mk' (by rw [hm, bcs_append]; rfl)
  have e62 : ((b : Int) == 62) = false := by rw [beq_eq_false_iff_ne]; omega
  have e60 : ((b : Int) == 60) = false := by rw [beq_eq_false_iff_ne]; omega
  clear h1 h2
  have g6 : (m.length : Int) ≥ 160 := by omega
  clear h6
  have KC := Hid.mk' (l1Copy_own a c l w ha (by omega))
  have HA := Hid.mk' ha
  have HU := Hid.mk' hu
  have LM := Hid.mk' lm
  clear ha hu hm lm
  go_enter Try.func77, Try.ntmps77
  go_wp2_with (first | go_big_skip | fail)
  refine KC.out.mono ?_
  rintro e w1 ⟨v, rfl, ho, hbl⟩
  have VB := below_new w1 (.cells #[.int .u8 b] 5)
  have OV := Hid.mk' (own_keep ho VB)
  have NC := Hid.mk' (new_cells' w1 5 [.int .u8 b] w1.heap.size rfl)
  have HB := Hid.mk' (hbl.trans (VB.mono hbl.size))
  have SZ := Hid.mk' HB.out.size
  have P1 : Hid (∀ u ∈ ([.int .u8 b] : List Value), u.oneCell' = true) := Hid.mk' (by
    intro u hu'
    simp only [List.mem_cons, List.not_mem_nil, or_false] at hu'
    subst hu'; rfl)
  clear ho hbl VB KC
  go_wp2_with (first | go_big_skip | (at_builtin; refine wpList_append_at _ rfl (.tmp 11) (.tmp 13) 22 rfl w.heap.size 5 (.int .u8 0) 1 1 Try.underlying22 Try.info5 rfl (by decide) _ _ _ rfl OV.out _ 1 _ [.int .u8 b] rfl rfl (.inr ⟨_, rfl, NC.out⟩) P1.out (by unfold maxLen; omega) (by omega) SZ.out ?_; intro v' w2 ho hgr hat; have OA : Hid (w2.ownsRow w.heap.size 5 1 v' m.length (bcs m)) := Hid.mk' (by rw [HM.out, LM.out]; exact ho); have BW := Hid.mk' (HB.out.grown hgr SZ.out (own_lo OV.out)); obtain ⟨aa, cc, rfl, ba⟩ := (OB.of_own OA.out).1.len; have BA := Hid.mk' ba; have KQ := Hid.mk' (l5Quoted_any a c l w2 (HA.out.below BW.out) hc (by omega)); have KN := Hid.mk' (l5Note_any a c l w2 (HA.out.below BW.out) hc (by omega)); clear ho hgr hat ba) | (go_at_call 79; refine KQ.out.mono ?_; rintro e9 w9 ⟨rfl, hw9⟩; obtain rfl := hw9.symm) | (go_at_call 81; refine KN.out.mono ?_; rintro e9 w9 ⟨rfl, hw9⟩; obtain rfl := hw9.symm))
  refine (l5Go_any aa cc m _ BA.out hum.out (by have := LM.out; omega)).mono ?_
  rintro e w3 ⟨v3, rfl, o3, b3⟩
  have F := Hid.mk' (feed_go rfl rfl BW.out o3 b3)
  clear o3 b3
  go_wp2
  go_ret2
  exact F.out

set_option maxRecDepth 100000 in
set_option maxHeartbeats 1600000 in
theorem l5Tag_gq1 (a : Option Addr) (c : Nat) (l : List Int) (b : Nat) (w : World) (ha : BAt w a l) (hu : Byt l) (hc : l.length ≤ c) (hl : l.length ≤ 200) (hb : b ≤ 255) (h1 : b = 62) (hq : quotedB l = true) (h6 : 160 ≤ l.length + 1) :
    Calls Try.prog 77 #[.slice a l.length c, .int .u8 b] w fun e w' => FeedB (l ++ [(b : Int)]) [] w e w' := by
  obtain ⟨m, hm⟩ : ∃ m, m = l ++ [(b : Int)] := ⟨_, rfl⟩
  rw [← hm]
  have lm : m.length = l.length + 1 := by rw [hm]; simp
  have hum : Hid (Byt m) := Hid.mk' (by rw [hm]; exact hu.snoc b hb)
  have HM : Hid (bcs m = bcs l ++ [.int .u8 b]) := Hid.mk' (by rw [hm, bcs_append]; rfl)
  have e62 : ((b : Int) == 62) = true := by rw [beq_iff_eq]; omega
  have e60 : ((b : Int) == 60) = false := by rw [beq_eq_false_iff_ne]; omega
  clear h1
  have g6 : (m.length : Int) ≥ 160 := by omega
  clear h6
  have KC := Hid.mk' (l1Copy_own a c l w ha (by omega))
  have HA := Hid.mk' ha
  have HU := Hid.mk' hu
  have LM := Hid.mk' lm
  clear ha hu hm lm
  go_enter Try.func77, Try.ntmps77
  go_wp2_with (first | go_big_skip | fail)
  refine KC.out.mono ?_
  rintro e w1 ⟨v, rfl, ho, hbl⟩
  have VB := below_new w1 (.cells #[.int .u8 b] 5)
  have OV := Hid.mk' (own_keep ho VB)
  have NC := Hid.mk' (new_cells' w1 5 [.int .u8 b] w1.heap.size rfl)
  have HB := Hid.mk' (hbl.trans (VB.mono hbl.size))
  have SZ := Hid.mk' HB.out.size
  have P1 : Hid (∀ u ∈ ([.int .u8 b] : List Value), u.oneCell' = true) := Hid.mk' (by
    intro u hu'
    simp only [List.mem_cons, List.not_mem_nil, or_false] at hu'
    subst hu'; rfl)
  clear ho hbl VB KC
  go_wp2_with (first | go_big_skip | (at_builtin; refine wpList_append_at _ rfl (.tmp 11) (.tmp 13) 22 rfl w.heap.size 5 (.int .u8 0) 1 1 Try.underlying22 Try.info5 rfl (by decide) _ _ _ rfl OV.out _ 1 _ [.int .u8 b] rfl rfl (.inr ⟨_, rfl, NC.out⟩) P1.out (by unfold maxLen; omega) (by omega) SZ.out ?_; intro v' w2 ho hgr hat; have OA : Hid (w2.ownsRow w.heap.size 5 1 v' m.length (bcs m)) := Hid.mk' (by rw [HM.out, LM.out]; exact ho); have BW := Hid.mk' (HB.out.grown hgr SZ.out (own_lo OV.out)); obtain ⟨aa, cc, rfl, ba⟩ := (OB.of_own OA.out).1.len; have BA := Hid.mk' ba; have KQ := Hid.mk' (l5Quoted_any a c l w2 (HA.out.below BW.out) hc (by omega)); have KN := Hid.mk' (l5Note_any a c l w2 (HA.out.below BW.out) hc (by omega)); rw [hq] at KQ; clear ho hgr hat ba) | (go_at_call 79; refine KQ.out.mono ?_; rintro e9 w9 ⟨rfl, hw9⟩; obtain rfl := hw9.symm) | (go_at_call 81; refine KN.out.mono ?_; rintro e9 w9 ⟨rfl, hw9⟩; obtain rfl := hw9.symm))
  refine (l5Go_any aa cc m _ BA.out hum.out (by have := LM.out; omega)).mono ?_
  rintro e w3 ⟨v3, rfl, o3, b3⟩
  have F := Hid.mk' (feed_go rfl rfl BW.out o3 b3)
  clear o3 b3
  go_wp2
  go_ret2
  exact F.out

set_option maxRecDepth 100000 in
set_option maxHeartbeats 1600000 in
theorem l5Tag_lq1 (a : Option Addr) (c : Nat) (l : List Int) (b : Nat) (w : World) (ha : BAt w a l) (hu : Byt l) (hc : l.length ≤ c) (hl : l.length ≤ 200) (hb : b ≤ 255) (h1 : b = 60) (hq : quotedB l = true) (h6 : 160 ≤ l.length + 1) :
    Calls Try.prog 77 #[.slice a l.length c, .int .u8 b] w fun e w' => FeedB (l ++ [(b : Int)]) [] w e w' := by
  obtain ⟨m, hm⟩ : ∃ m, m = l ++ [(b : Int)] := ⟨_, rfl⟩
  rw [← hm]
  have lm : m.length = l.length + 1 := by rw [hm]; simp
  have hum : Hid (Byt m) := Hid.mk' (by rw [hm]; exact hu.snoc b hb)
  have HM : Hid (bcs m = bcs l ++ [.int .u8 b]) := Hid.mk' (by rw [hm, bcs_append]; rfl)
  have e62 : ((b : Int) == 62) = false := by rw [beq_eq_false_iff_ne]; omega
  have e60 : ((b : Int) == 60) = true := by rw [beq_iff_eq]; omega
  clear h1
  have g6 : (m.length : Int) ≥ 160 := by omega
  clear h6
  have KC := Hid.mk' (l1Copy_own a c l w ha (by omega))
  have HA := Hid.mk' ha
  have HU := Hid.mk' hu
  have LM := Hid.mk' lm
  clear ha hu hm lm
  go_enter Try.func77, Try.ntmps77
  go_wp2_with (first | go_big_skip | fail)
  refine KC.out.mono ?_
  rintro e w1 ⟨v, rfl, ho, hbl⟩
  have VB := below_new w1 (.cells #[.int .u8 b] 5)
  have OV := Hid.mk' (own_keep ho VB)
  have NC := Hid.mk' (new_cells' w1 5 [.int .u8 b] w1.heap.size rfl)
  have HB := Hid.mk' (hbl.trans (VB.mono hbl.size))
  have SZ := Hid.mk' HB.out.size
  have P1 : Hid (∀ u ∈ ([.int .u8 b] : List Value), u.oneCell' = true) := Hid.mk' (by
    intro u hu'
    simp only [List.mem_cons, List.not_mem_nil, or_false] at hu'
    subst hu'; rfl)
  clear ho hbl VB KC
  go_wp2_with (first | go_big_skip | (at_builtin; refine wpList_append_at _ rfl (.tmp 11) (.tmp 13) 22 rfl w.heap.size 5 (.int .u8 0) 1 1 Try.underlying22 Try.info5 rfl (by decide) _ _ _ rfl OV.out _ 1 _ [.int .u8 b] rfl rfl (.inr ⟨_, rfl, NC.out⟩) P1.out (by unfold maxLen; omega) (by omega) SZ.out ?_; intro v' w2 ho hgr hat; have OA : Hid (w2.ownsRow w.heap.size 5 1 v' m.length (bcs m)) := Hid.mk' (by rw [HM.out, LM.out]; exact ho); have BW := Hid.mk' (HB.out.grown hgr SZ.out (own_lo OV.out)); obtain ⟨aa, cc, rfl, ba⟩ := (OB.of_own OA.out).1.len; have BA := Hid.mk' ba; have KQ := Hid.mk' (l5Quoted_any a c l w2 (HA.out.below BW.out) hc (by omega)); have KN := Hid.mk' (l5Note_any a c l w2 (HA.out.below BW.out) hc (by omega)); rw [hq] at KQ; clear ho hgr hat ba) | (go_at_call 79; refine KQ.out.mono ?_; rintro e9 w9 ⟨rfl, hw9⟩; obtain rfl := hw9.symm) | (go_at_call 81; refine KN.out.mono ?_; rintro e9 w9 ⟨rfl, hw9⟩; obtain rfl := hw9.symm))
  refine (l5Go_any aa cc m _ BA.out hum.out (by have := LM.out; omega)).mono ?_
  rintro e w3 ⟨v3, rfl, o3, b3⟩
  have F := Hid.mk' (feed_go rfl rfl BW.out o3 b3)
  clear o3 b3
  go_wp2
  go_ret2
  exact F.out

set_option maxRecDepth 100000 in
set_option maxHeartbeats 1600000 in
theorem l5Tag_ln1 (a : Option Addr) (c : Nat) (l : List Int) (b : Nat) (w : World) (ha : BAt w a l) (hu : Byt l) (hc : l.length ≤ c) (hl : l.length ≤ 200) (hb : b ≤ 255) (h1 : b = 60) (hq : quotedB l = false) (hn : noteB l = true) (h6 : 160 ≤ l.length + 1) :
    Calls Try.prog 77 #[.slice a l.length c, .int .u8 b] w fun e w' => FeedB (l ++ [(b : Int)]) [] w e w' := by
  obtain ⟨m, hm⟩ : ∃ m, m = l ++ [(b : Int)] := ⟨_, rfl⟩
  rw [← hm]
  have lm : m.length = l.length + 1 := by rw [hm]; simp
  have hum : Hid (Byt m) := Hid.mk' (by rw [hm]; exact hu.snoc b hb)
  have HM : Hid (bcs m = bcs l ++ [.int .u8 b]) := Hid.mk' (by rw [hm, bcs_append]; rfl)
  have e62 : ((b : Int) == 62) = false := by rw [beq_eq_false_iff_ne]; omega
  have e60 : ((b : Int) == 60) = true := by rw [beq_iff_eq]; omega
  clear h1
  have g6 : (m.length : Int) ≥ 160 := by omega
  clear h6
  have KC := Hid.mk' (l1Copy_own a c l w ha (by omega))
  have HA := Hid.mk' ha
  have HU := Hid.mk' hu
  have LM := Hid.mk' lm
  clear ha hu hm lm
  go_enter Try.func77, Try.ntmps77
  go_wp2_with (first | go_big_skip | fail)
  refine KC.out.mono ?_
  rintro e w1 ⟨v, rfl, ho, hbl⟩
  have VB := below_new w1 (.cells #[.int .u8 b] 5)
  have OV := Hid.mk' (own_keep ho VB)
  have NC := Hid.mk' (new_cells' w1 5 [.int .u8 b] w1.heap.size rfl)
  have HB := Hid.mk' (hbl.trans (VB.mono hbl.size))
  have SZ := Hid.mk' HB.out.size
  have P1 : Hid (∀ u ∈ ([.int .u8 b] : List Value), u.oneCell' = true) := Hid.mk' (by
    intro u hu'
    simp only [List.mem_cons, List.not_mem_nil, or_false] at hu'
    subst hu'; rfl)
  clear ho hbl VB KC
  go_wp2_with (first | go_big_skip | (at_builtin; refine wpList_append_at _ rfl (.tmp 11) (.tmp 13) 22 rfl w.heap.size 5 (.int .u8 0) 1 1 Try.underlying22 Try.info5 rfl (by decide) _ _ _ rfl OV.out _ 1 _ [.int .u8 b] rfl rfl (.inr ⟨_, rfl, NC.out⟩) P1.out (by unfold maxLen; omega) (by omega) SZ.out ?_; intro v' w2 ho hgr hat; have OA : Hid (w2.ownsRow w.heap.size 5 1 v' m.length (bcs m)) := Hid.mk' (by rw [HM.out, LM.out]; exact ho); have BW := Hid.mk' (HB.out.grown hgr SZ.out (own_lo OV.out)); obtain ⟨aa, cc, rfl, ba⟩ := (OB.of_own OA.out).1.len; have BA := Hid.mk' ba; have KQ := Hid.mk' (l5Quoted_any a c l w2 (HA.out.below BW.out) hc (by omega)); have KN := Hid.mk' (l5Note_any a c l w2 (HA.out.below BW.out) hc (by omega)); rw [hq] at KQ; rw [hn] at KN; clear ho hgr hat ba) | (go_at_call 79; refine KQ.out.mono ?_; rintro e9 w9 ⟨rfl, hw9⟩; obtain rfl := hw9.symm) | (go_at_call 81; refine KN.out.mono ?_; rintro e9 w9 ⟨rfl, hw9⟩; obtain rfl := hw9.symm))
  refine (l5Go_any aa cc m _ BA.out hum.out (by have := LM.out; omega)).mono ?_
  rintro e w3 ⟨v3, rfl, o3, b3⟩
  have F := Hid.mk' (feed_go rfl rfl BW.out o3 b3)
  clear o3 b3
  go_wp2
  go_ret2
  exact F.out

set_option maxRecDepth 100000 in
set_option maxHeartbeats 1600000 in
theorem l5Tag_o0 (a : Option Addr) (c : Nat) (l : List Int) (b : Nat) (w : World) (ha : BAt w a l) (hu : Byt l) (hc : l.length ≤ c) (hl : l.length ≤ 200) (hb : b ≤ 255) (h1 : ¬ b = 62) (h2 : ¬ b = 60) (h6 : ¬ 160 ≤ l.length + 1) :
    Calls Try.prog 77 #[.slice a l.length c, .int .u8 b] w fun e w' => FeedB [] (l ++ [(b : Int)]) w e w' := by
  obtain ⟨m, hm⟩ : ∃ m, m = l ++ [(b : Int)] := ⟨_, rfl⟩
  rw [← hm]
  have lm : m.length = l.length + 1 := by rw [hm]; simp
  have hum : Hid (Byt m) := Hid.mk' (by rw [hm]; exact hu.snoc b hb)
  have HM : Hid (bcs m = bcs l ++ [.int .u8 b]) := Hid.mk' (by rw [hm, bcs_append]; rfl)
  have e62 : ((b : Int) == 62) = false := by rw [beq_eq_false_iff_ne]; omega
  have e60 : ((b : Int) == 60) = false := by rw [beq_eq_false_iff_ne]; omega
  clear h1 h2
  have g6 : ¬ (m.length : Int) ≥ 160 := by omega
  clear h6
  have KC := Hid.mk' (l1Copy_own a c l w ha (by omega))
  have HA := Hid.mk' ha
  have HU := Hid.mk' hu
  have LM := Hid.mk' lm
  clear ha hu hm lm
  go_enter Try.func77, Try.ntmps77
  go_wp2_with (first | go_big_skip | fail)
  refine KC.out.mono ?_
  rintro e w1 ⟨v, rfl, ho, hbl⟩
  have VB := below_new w1 (.cells #[.int .u8 b] 5)
  have OV := Hid.mk' (own_keep ho VB)
  have NC := Hid.mk' (new_cells' w1 5 [.int .u8 b] w1.heap.size rfl)
  have HB := Hid.mk' (hbl.trans (VB.mono hbl.size))
  have SZ := Hid.mk' HB.out.size
  have P1 : Hid (∀ u ∈ ([.int .u8 b] : List Value), u.oneCell' = true) := Hid.mk' (by
    intro u hu'
    simp only [List.mem_cons, List.not_mem_nil, or_false] at hu'
    subst hu'; rfl)
  clear ho hbl VB KC
  go_wp2_with (first | go_big_skip | (at_builtin; refine wpList_append_at _ rfl (.tmp 11) (.tmp 13) 22 rfl w.heap.size 5 (.int .u8 0) 1 1 Try.underlying22 Try.info5 rfl (by decide) _ _ _ rfl OV.out _ 1 _ [.int .u8 b] rfl rfl (.inr ⟨_, rfl, NC.out⟩) P1.out (by unfold maxLen; omega) (by omega) SZ.out ?_; intro v' w2 ho hgr hat; have OA : Hid (w2.ownsRow w.heap.size 5 1 v' m.length (bcs m)) := Hid.mk' (by rw [HM.out, LM.out]; exact ho); have BW := Hid.mk' (HB.out.grown hgr SZ.out (own_lo OV.out)); obtain ⟨aa, cc, rfl, ba⟩ := (OB.of_own OA.out).1.len; have BA := Hid.mk' ba; have KQ := Hid.mk' (l5Quoted_any a c l w2 (HA.out.below BW.out) hc (by omega)); have KN := Hid.mk' (l5Note_any a c l w2 (HA.out.below BW.out) hc (by omega)); clear ho hgr hat ba) | (go_at_call 79; refine KQ.out.mono ?_; rintro e9 w9 ⟨rfl, hw9⟩; obtain rfl := hw9.symm) | (go_at_call 81; refine KN.out.mono ?_; rintro e9 w9 ⟨rfl, hw9⟩; obtain rfl := hw9.symm))
  have F := Hid.mk' (feed_hold rfl rfl BW.out OA.out)
  go_ret2
  exact F.out

set_option maxRecDepth 100000 in
set_option maxHeartbeats 1600000 in
theorem l5Tag_gq0 (a : Option Addr) (c : Nat) (l : List Int) (b : Nat) (w : World) (ha : BAt w a l) (hu : Byt l) (hc : l.length ≤ c) (hl : l.length ≤ 200) (hb : b ≤ 255) (h1 : b = 62) (hq : quotedB l = true) (h6 : ¬ 160 ≤ l.length + 1) :
    Calls Try.prog 77 #[.slice a l.length c, .int .u8 b] w fun e w' => FeedB [] (l ++ [(b : Int)]) w e w' := by
  obtain ⟨m, hm⟩ : ∃ m, m = l ++ [(b : Int)] := ⟨_, rfl⟩
  rw [← hm]
  have lm : m.length = l.length + 1 := by rw [hm]; simp
  have hum : Hid (Byt m) := Hid.mk' (by rw [hm]; exact hu.snoc b hb)
  have HM : Hid (bcs m = bcs l ++ [.int .u8 b]) := Hid.mk' (by rw [hm, bcs_append]; rfl)
  have e62 : ((b : Int) == 62) = true := by rw [beq_iff_eq]; omega
  have e60 : ((b : Int) == 60) = false := by rw [beq_eq_false_iff_ne]; omega
  clear h1
  have g6 : ¬ (m.length : Int) ≥ 160 := by omega
  clear h6
  have KC := Hid.mk' (l1Copy_own a c l w ha (by omega))
  have HA := Hid.mk' ha
  have HU := Hid.mk' hu
  have LM := Hid.mk' lm
  clear ha hu hm lm
  go_enter Try.func77, Try.ntmps77
  go_wp2_with (first | go_big_skip | fail)
  refine KC.out.mono ?_
  rintro e w1 ⟨v, rfl, ho, hbl⟩
  have VB := below_new w1 (.cells #[.int .u8 b] 5)
  have OV := Hid.mk' (own_keep ho VB)
  have NC := Hid.mk' (new_cells' w1 5 [.int .u8 b] w1.heap.size rfl)
  have HB := Hid.mk' (hbl.trans (VB.mono hbl.size))
  have SZ := Hid.mk' HB.out.size
  have P1 : Hid (∀ u ∈ ([.int .u8 b] : List Value), u.oneCell' = true) := Hid.mk' (by
    intro u hu'
    simp only [List.mem_cons, List.not_mem_nil, or_false] at hu'
    subst hu'; rfl)
  clear ho hbl VB KC
  go_wp2_with (first | go_big_skip | (at_builtin; refine wpList_append_at _ rfl (.tmp 11) (.tmp 13) 22 rfl w.heap.size 5 (.int .u8 0) 1 1 Try.underlying22 Try.info5 rfl (by decide) _ _ _ rfl OV.out _ 1 _ [.int .u8 b] rfl rfl (.inr ⟨_, rfl, NC.out⟩) P1.out (by unfold maxLen; omega) (by omega) SZ.out ?_; intro v' w2 ho hgr hat; have OA : Hid (w2.ownsRow w.heap.size 5 1 v' m.length (bcs m)) := Hid.mk' (by rw [HM.out, LM.out]; exact ho); have BW := Hid.mk' (HB.out.grown hgr SZ.out (own_lo OV.out)); obtain ⟨aa, cc, rfl, ba⟩ := (OB.of_own OA.out).1.len; have BA := Hid.mk' ba; have KQ := Hid.mk' (l5Quoted_any a c l w2 (HA.out.below BW.out) hc (by omega)); have KN := Hid.mk' (l5Note_any a c l w2 (HA.out.below BW.out) hc (by omega)); rw [hq] at KQ; clear ho hgr hat ba) | (go_at_call 79; refine KQ.out.mono ?_; rintro e9 w9 ⟨rfl, hw9⟩; obtain rfl := hw9.symm) | (go_at_call 81; refine KN.out.mono ?_; rintro e9 w9 ⟨rfl, hw9⟩; obtain rfl := hw9.symm))
  have F := Hid.mk' (feed_hold rfl rfl BW.out OA.out)
  go_ret2
  exact F.out

set_option maxRecDepth 100000 in
set_option maxHeartbeats 1600000 in
theorem l5Tag_lq0 (a : Option Addr) (c : Nat) (l : List Int) (b : Nat) (w : World) (ha : BAt w a l) (hu : Byt l) (hc : l.length ≤ c) (hl : l.length ≤ 200) (hb : b ≤ 255) (h1 : b = 60) (hq : quotedB l = true) (h6 : ¬ 160 ≤ l.length + 1) :
    Calls Try.prog 77 #[.slice a l.length c, .int .u8 b] w fun e w' => FeedB [] (l ++ [(b : Int)]) w e w' := by
  obtain ⟨m, hm⟩ : ∃ m, m = l ++ [(b : Int)] := ⟨_, rfl⟩
  rw [← hm]
  have lm : m.length = l.length + 1 := by rw [hm]; simp
  have hum : Hid (Byt m) := Hid.mk' (by rw [hm]; exact hu.snoc b hb)
  have HM : Hid (bcs m = bcs l ++ [.int .u8 b]) := Hid.mk' (by rw [hm, bcs_append]; rfl)
  have e62 : ((b : Int) == 62) = false := by rw [beq_eq_false_iff_ne]; omega
  have e60 : ((b : Int) == 60) = true := by rw [beq_iff_eq]; omega
  clear h1
  have g6 : ¬ (m.length : Int) ≥ 160 := by omega
  clear h6
  have KC := Hid.mk' (l1Copy_own a c l w ha (by omega))
  have HA := Hid.mk' ha
  have HU := Hid.mk' hu
  have LM := Hid.mk' lm
  clear ha hu hm lm
  go_enter Try.func77, Try.ntmps77
  go_wp2_with (first | go_big_skip | fail)
  refine KC.out.mono ?_
  rintro e w1 ⟨v, rfl, ho, hbl⟩
  have VB := below_new w1 (.cells #[.int .u8 b] 5)
  have OV := Hid.mk' (own_keep ho VB)
  have NC := Hid.mk' (new_cells' w1 5 [.int .u8 b] w1.heap.size rfl)
  have HB := Hid.mk' (hbl.trans (VB.mono hbl.size))
  have SZ := Hid.mk' HB.out.size
  have P1 : Hid (∀ u ∈ ([.int .u8 b] : List Value), u.oneCell' = true) := Hid.mk' (by
    intro u hu'
    simp only [List.mem_cons, List.not_mem_nil, or_false] at hu'
    subst hu'; rfl)
  clear ho hbl VB KC
  go_wp2_with (first | go_big_skip | (at_builtin; refine wpList_append_at _ rfl (.tmp 11) (.tmp 13) 22 rfl w.heap.size 5 (.int .u8 0) 1 1 Try.underlying22 Try.info5 rfl (by decide) _ _ _ rfl OV.out _ 1 _ [.int .u8 b] rfl rfl (.inr ⟨_, rfl, NC.out⟩) P1.out (by unfold maxLen; omega) (by omega) SZ.out ?_; intro v' w2 ho hgr hat; have OA : Hid (w2.ownsRow w.heap.size 5 1 v' m.length (bcs m)) := Hid.mk' (by rw [HM.out, LM.out]; exact ho); have BW := Hid.mk' (HB.out.grown hgr SZ.out (own_lo OV.out)); obtain ⟨aa, cc, rfl, ba⟩ := (OB.of_own OA.out).1.len; have BA := Hid.mk' ba; have KQ := Hid.mk' (l5Quoted_any a c l w2 (HA.out.below BW.out) hc (by omega)); have KN := Hid.mk' (l5Note_any a c l w2 (HA.out.below BW.out) hc (by omega)); rw [hq] at KQ; clear ho hgr hat ba) | (go_at_call 79; refine KQ.out.mono ?_; rintro e9 w9 ⟨rfl, hw9⟩; obtain rfl := hw9.symm) | (go_at_call 81; refine KN.out.mono ?_; rintro e9 w9 ⟨rfl, hw9⟩; obtain rfl := hw9.symm))
  have F := Hid.mk' (feed_hold rfl rfl BW.out OA.out)
  go_ret2
  exact F.out

set_option maxRecDepth 100000 in
set_option maxHeartbeats 1600000 in
theorem l5Tag_ln0 (a : Option Addr) (c : Nat) (l : List Int) (b : Nat) (w : World) (ha : BAt w a l) (hu : Byt l) (hc : l.length ≤ c) (hl : l.length ≤ 200) (hb : b ≤ 255) (h1 : b = 60) (hq : quotedB l = false) (hn : noteB l = true) (h6 : ¬ 160 ≤ l.length + 1) :
    Calls Try.prog 77 #[.slice a l.length c, .int .u8 b] w fun e w' => FeedB [] (l ++ [(b : Int)]) w e w' := by
  obtain ⟨m, hm⟩ : ∃ m, m = l ++ [(b : Int)] := ⟨_, rfl⟩
  rw [← hm]
  have lm : m.length = l.length + 1 := by rw [hm]; simp
  have hum : Hid (Byt m) := Hid.mk' (by rw [hm]; exact hu.snoc b hb)
  have HM : Hid (bcs m = bcs l ++ [.int .u8 b]) := Hid.mk' (by rw [hm, bcs_append]; rfl)
  have e62 : ((b : Int) == 62) = false := by rw [beq_eq_false_iff_ne]; omega
  have e60 : ((b : Int) == 60) = true := by rw [beq_iff_eq]; omega
  clear h1
  have g6 : ¬ (m.length : Int) ≥ 160 := by omega
  clear h6
  have KC := Hid.mk' (l1Copy_own a c l w ha (by omega))
  have HA := Hid.mk' ha
  have HU := Hid.mk' hu
  have LM := Hid.mk' lm
  clear ha hu hm lm
  go_enter Try.func77, Try.ntmps77
  go_wp2_with (first | go_big_skip | fail)
  refine KC.out.mono ?_
  rintro e w1 ⟨v, rfl, ho, hbl⟩
  have VB := below_new w1 (.cells #[.int .u8 b] 5)
  have OV := Hid.mk' (own_keep ho VB)
  have NC := Hid.mk' (new_cells' w1 5 [.int .u8 b] w1.heap.size rfl)
  have HB := Hid.mk' (hbl.trans (VB.mono hbl.size))
  have SZ := Hid.mk' HB.out.size
  have P1 : Hid (∀ u ∈ ([.int .u8 b] : List Value), u.oneCell' = true) := Hid.mk' (by
    intro u hu'
    simp only [List.mem_cons, List.not_mem_nil, or_false] at hu'
    subst hu'; rfl)
  clear ho hbl VB KC
  go_wp2_with (first | go_big_skip | (at_builtin; refine wpList_append_at _ rfl (.tmp 11) (.tmp 13) 22 rfl w.heap.size 5 (.int .u8 0) 1 1 Try.underlying22 Try.info5 rfl (by decide) _ _ _ rfl OV.out _ 1 _ [.int .u8 b] rfl rfl (.inr ⟨_, rfl, NC.out⟩) P1.out (by unfold maxLen; omega) (by omega) SZ.out ?_; intro v' w2 ho hgr hat; have OA : Hid (w2.ownsRow w.heap.size 5 1 v' m.length (bcs m)) := Hid.mk' (by rw [HM.out, LM.out]; exact ho); have BW := Hid.mk' (HB.out.grown hgr SZ.out (own_lo OV.out)); obtain ⟨aa, cc, rfl, ba⟩ := (OB.of_own OA.out).1.len; have BA := Hid.mk' ba; have KQ := Hid.mk' (l5Quoted_any a c l w2 (HA.out.below BW.out) hc (by omega)); have KN := Hid.mk' (l5Note_any a c l w2 (HA.out.below BW.out) hc (by omega)); rw [hq] at KQ; rw [hn] at KN; clear ho hgr hat ba) | (go_at_call 79; refine KQ.out.mono ?_; rintro e9 w9 ⟨rfl, hw9⟩; obtain rfl := hw9.symm) | (go_at_call 81; refine KN.out.mono ?_; rintro e9 w9 ⟨rfl, hw9⟩; obtain rfl := hw9.symm))
  have F := Hid.mk' (feed_hold rfl rfl BW.out OA.out)
  go_ret2
  exact F.out

set_option maxRecDepth 100000 in
set_option maxHeartbeats 1600000 in
theorem l5Tag_gn1 (a : Option Addr) (c : Nat) (l : List Int) (b : Nat) (w : World) (ha : BAt w a l) (hu : Byt l) (hc : l.length ≤ c) (hl : l.length ≤ 200) (hb : b ≤ 255) (h1 : b = 62) (ht : tagA (strU (l ++ [(b : Int)])) = none) (hq : quotedB l = false) (hn : noteB l = true) (h6 : 160 ≤ l.length + 1) :
    Calls Try.prog 77 #[.slice a l.length c, .int .u8 b] w fun e w' => FeedB (l ++ [(b : Int)]) [] w e w' := by
  obtain ⟨m, hm⟩ : ∃ m, m = l ++ [(b : Int)] := ⟨_, rfl⟩
  rw [← hm]
  have lm : m.length = l.length + 1 := by rw [hm]; simp
  have hum : Hid (Byt m) := Hid.mk' (by rw [hm]; exact hu.snoc b hb)
  have HM : Hid (bcs m = bcs l ++ [.int .u8 b]) := Hid.mk' (by rw [hm, bcs_append]; rfl)
  have e62 : ((b : Int) == 62) = true := by rw [beq_iff_eq]; omega
  have e60 : ((b : Int) == 60) = false := by rw [beq_eq_false_iff_ne]; omega
  have HT : Hid (tagA (strI m).data.toList = none) := Hid.mk' (by rw [hm]; exact ht)
  clear h1 ht
  have g6 : (m.length : Int) ≥ 160 := by omega
  clear h6
  have KC := Hid.mk' (l1Copy_own a c l w ha (by omega))
  have HA := Hid.mk' ha
  have HU := Hid.mk' hu
  have LM := Hid.mk' lm
  clear ha hu hm lm
  go_enter Try.func77, Try.ntmps77
  go_wp2_with (first | go_big_skip | fail)
  refine KC.out.mono ?_
  rintro e w1 ⟨v, rfl, ho, hbl⟩
  have VB := below_new w1 (.cells #[.int .u8 b] 5)
  have OV := Hid.mk' (own_keep ho VB)
  have NC := Hid.mk' (new_cells' w1 5 [.int .u8 b] w1.heap.size rfl)
  have HB := Hid.mk' (hbl.trans (VB.mono hbl.size))
  have SZ := Hid.mk' HB.out.size
  have P1 : Hid (∀ u ∈ ([.int .u8 b] : List Value), u.oneCell' = true) := Hid.mk' (by
    intro u hu'
    simp only [List.mem_cons, List.not_mem_nil, or_false] at hu'
    subst hu'; rfl)
  clear ho hbl VB KC
  go_wp2_with (first | go_big_skip | (at_builtin; refine wpList_append_at _ rfl (.tmp 11) (.tmp 13) 22 rfl w.heap.size 5 (.int .u8 0) 1 1 Try.underlying22 Try.info5 rfl (by decide) _ _ _ rfl OV.out _ 1 _ [.int .u8 b] rfl rfl (.inr ⟨_, rfl, NC.out⟩) P1.out (by unfold maxLen; omega) (by omega) SZ.out ?_; intro v' w2 ho hgr hat; have OA : Hid (w2.ownsRow w.heap.size 5 1 v' m.length (bcs m)) := Hid.mk' (by rw [HM.out, LM.out]; exact ho); have BW := Hid.mk' (HB.out.grown hgr SZ.out (own_lo OV.out)); obtain ⟨aa, cc, rfl, ba⟩ := (OB.of_own OA.out).1.len; have BA := Hid.mk' ba; have KQ := Hid.mk' (l5Quoted_any a c l w2 (HA.out.below BW.out) hc (by omega)); have KN := Hid.mk' (l5Note_any a c l w2 (HA.out.below BW.out) hc (by omega)); rw [hq] at KQ; rw [hn] at KN; have hcv := conv_bytesT cc ba; have KR := Hid.mk' (l4Read_any (strI m) w2 (by rw [strI_size, LM.out]; omega)); rw [HT.out] at KR; clear ho hgr hat ba) | (go_at_call 79; refine KQ.out.mono ?_; rintro e9 w9 ⟨rfl, hw9⟩; obtain rfl := hw9.symm) | (go_at_call 81; refine KN.out.mono ?_; rintro e9 w9 ⟨rfl, hw9⟩; obtain rfl := hw9.symm) | (go_at_call 80; refine KR.out.mono ?_; rintro e9 w9 ⟨t, vt, us, ok, rfl, hoa, hok, hb9⟩; obtain rfl : ok = false := (by cases ok; rfl; simp at hok); obtain ⟨pa, pc, rfl, haat⟩ := hoa.at; have hx := below_new w9 (.cells #[.int .i64 t.kd, .int .i64 t.by_, .string t.nm, .slice pa t.at_.length pc, .bool t.sh] 89); have hb10 := hb9.trans (hx.mono hb9.size); have OA := Hid.mk' (own_keep OA.out hb10); have BA := Hid.mk' (BA.out.below hb10); have BW := Hid.mk' (BW.out.trans (hb10.mono BW.out.size)); have KN := Hid.mk' (l5Note_any a c l _ (HA.out.below BW.out) hc (by omega)); rw [hn] at KN; clear hoa hok hb9 hx hb10 haat KR))
  refine (l5Go_any aa cc m _ BA.out hum.out (by have := LM.out; omega)).mono ?_
  rintro e w3 ⟨v3, rfl, o3, b3⟩
  have F := Hid.mk' (feed_go rfl rfl BW.out o3 b3)
  clear o3 b3
  go_wp2
  go_ret2
  exact F.out

set_option maxRecDepth 100000 in
set_option maxHeartbeats 1600000 in
theorem l5Tag_gn0 (a : Option Addr) (c : Nat) (l : List Int) (b : Nat) (w : World) (ha : BAt w a l) (hu : Byt l) (hc : l.length ≤ c) (hl : l.length ≤ 200) (hb : b ≤ 255) (h1 : b = 62) (ht : tagA (strU (l ++ [(b : Int)])) = none) (hq : quotedB l = false) (hn : noteB l = true) (h6 : ¬ 160 ≤ l.length + 1) :
    Calls Try.prog 77 #[.slice a l.length c, .int .u8 b] w fun e w' => FeedB [] (l ++ [(b : Int)]) w e w' := by
  obtain ⟨m, hm⟩ : ∃ m, m = l ++ [(b : Int)] := ⟨_, rfl⟩
  rw [← hm]
  have lm : m.length = l.length + 1 := by rw [hm]; simp
  have hum : Hid (Byt m) := Hid.mk' (by rw [hm]; exact hu.snoc b hb)
  have HM : Hid (bcs m = bcs l ++ [.int .u8 b]) := Hid.mk' (by rw [hm, bcs_append]; rfl)
  have e62 : ((b : Int) == 62) = true := by rw [beq_iff_eq]; omega
  have e60 : ((b : Int) == 60) = false := by rw [beq_eq_false_iff_ne]; omega
  have HT : Hid (tagA (strI m).data.toList = none) := Hid.mk' (by rw [hm]; exact ht)
  clear h1 ht
  have g6 : ¬ (m.length : Int) ≥ 160 := by omega
  clear h6
  have KC := Hid.mk' (l1Copy_own a c l w ha (by omega))
  have HA := Hid.mk' ha
  have HU := Hid.mk' hu
  have LM := Hid.mk' lm
  clear ha hu hm lm
  go_enter Try.func77, Try.ntmps77
  go_wp2_with (first | go_big_skip | fail)
  refine KC.out.mono ?_
  rintro e w1 ⟨v, rfl, ho, hbl⟩
  have VB := below_new w1 (.cells #[.int .u8 b] 5)
  have OV := Hid.mk' (own_keep ho VB)
  have NC := Hid.mk' (new_cells' w1 5 [.int .u8 b] w1.heap.size rfl)
  have HB := Hid.mk' (hbl.trans (VB.mono hbl.size))
  have SZ := Hid.mk' HB.out.size
  have P1 : Hid (∀ u ∈ ([.int .u8 b] : List Value), u.oneCell' = true) := Hid.mk' (by
    intro u hu'
    simp only [List.mem_cons, List.not_mem_nil, or_false] at hu'
    subst hu'; rfl)
  clear ho hbl VB KC
  go_wp2_with (first | go_big_skip | (at_builtin; refine wpList_append_at _ rfl (.tmp 11) (.tmp 13) 22 rfl w.heap.size 5 (.int .u8 0) 1 1 Try.underlying22 Try.info5 rfl (by decide) _ _ _ rfl OV.out _ 1 _ [.int .u8 b] rfl rfl (.inr ⟨_, rfl, NC.out⟩) P1.out (by unfold maxLen; omega) (by omega) SZ.out ?_; intro v' w2 ho hgr hat; have OA : Hid (w2.ownsRow w.heap.size 5 1 v' m.length (bcs m)) := Hid.mk' (by rw [HM.out, LM.out]; exact ho); have BW := Hid.mk' (HB.out.grown hgr SZ.out (own_lo OV.out)); obtain ⟨aa, cc, rfl, ba⟩ := (OB.of_own OA.out).1.len; have BA := Hid.mk' ba; have KQ := Hid.mk' (l5Quoted_any a c l w2 (HA.out.below BW.out) hc (by omega)); have KN := Hid.mk' (l5Note_any a c l w2 (HA.out.below BW.out) hc (by omega)); rw [hq] at KQ; rw [hn] at KN; have hcv := conv_bytesT cc ba; have KR := Hid.mk' (l4Read_any (strI m) w2 (by rw [strI_size, LM.out]; omega)); rw [HT.out] at KR; clear ho hgr hat ba) | (go_at_call 79; refine KQ.out.mono ?_; rintro e9 w9 ⟨rfl, hw9⟩; obtain rfl := hw9.symm) | (go_at_call 81; refine KN.out.mono ?_; rintro e9 w9 ⟨rfl, hw9⟩; obtain rfl := hw9.symm) | (go_at_call 80; refine KR.out.mono ?_; rintro e9 w9 ⟨t, vt, us, ok, rfl, hoa, hok, hb9⟩; obtain rfl : ok = false := (by cases ok; rfl; simp at hok); obtain ⟨pa, pc, rfl, haat⟩ := hoa.at; have hx := below_new w9 (.cells #[.int .i64 t.kd, .int .i64 t.by_, .string t.nm, .slice pa t.at_.length pc, .bool t.sh] 89); have hb10 := hb9.trans (hx.mono hb9.size); have OA := Hid.mk' (own_keep OA.out hb10); have BA := Hid.mk' (BA.out.below hb10); have BW := Hid.mk' (BW.out.trans (hb10.mono BW.out.size)); have KN := Hid.mk' (l5Note_any a c l _ (HA.out.below BW.out) hc (by omega)); rw [hn] at KN; clear hoa hok hb9 hx hb10 haat KR))
  have F := feed_hold rfl rfl BW.out OA.out
  rw [World.heap_size_alloc'] at F
  have F := Hid.mk' F
  go_ret2
  exact F.out

set_option maxRecDepth 100000 in
set_option maxHeartbeats 1600000 in
theorem l5Tag_gx (a : Option Addr) (c : Nat) (l : List Int) (b : Nat) (w : World) (ha : BAt w a l) (hu : Byt l) (hc : l.length ≤ c) (hl : l.length ≤ 200) (hb : b ≤ 255) (h1 : b = 62) (ht : tagA (strU (l ++ [(b : Int)])) = none) (hq : quotedB l = false) (hn : noteB l = false) :
    Calls Try.prog 77 #[.slice a l.length c, .int .u8 b] w fun e w' => FeedB (l ++ [(b : Int)]) [] w e w' := by
  obtain ⟨m, hm⟩ : ∃ m, m = l ++ [(b : Int)] := ⟨_, rfl⟩
  rw [← hm]
  have lm : m.length = l.length + 1 := by rw [hm]; simp
  have hum : Hid (Byt m) := Hid.mk' (by rw [hm]; exact hu.snoc b hb)
  have HM : Hid (bcs m = bcs l ++ [.int .u8 b]) := Hid.mk' (by rw [hm, bcs_append]; rfl)
  have e62 : ((b : Int) == 62) = true := by rw [beq_iff_eq]; omega
  have e60 : ((b : Int) == 60) = false := by rw [beq_eq_false_iff_ne]; omega
  have HT : Hid (tagA (strI m).data.toList = none) := Hid.mk' (by rw [hm]; exact ht)
  clear h1 ht
  have KC := Hid.mk' (l1Copy_own a c l w ha (by omega))
  have HA := Hid.mk' ha
  have HU := Hid.mk' hu
  have LM := Hid.mk' lm
  clear ha hu hm lm
  go_enter Try.func77, Try.ntmps77
  go_wp2_with (first | go_big_skip | fail)
  refine KC.out.mono ?_
  rintro e w1 ⟨v, rfl, ho, hbl⟩
  have VB := below_new w1 (.cells #[.int .u8 b] 5)
  have OV := Hid.mk' (own_keep ho VB)
  have NC := Hid.mk' (new_cells' w1 5 [.int .u8 b] w1.heap.size rfl)
  have HB := Hid.mk' (hbl.trans (VB.mono hbl.size))
  have SZ := Hid.mk' HB.out.size
  have P1 : Hid (∀ u ∈ ([.int .u8 b] : List Value), u.oneCell' = true) := Hid.mk' (by
    intro u hu'
    simp only [List.mem_cons, List.not_mem_nil, or_false] at hu'
    subst hu'; rfl)
  clear ho hbl VB KC
  go_wp2_with (first | go_big_skip | (at_builtin; refine wpList_append_at _ rfl (.tmp 11) (.tmp 13) 22 rfl w.heap.size 5 (.int .u8 0) 1 1 Try.underlying22 Try.info5 rfl (by decide) _ _ _ rfl OV.out _ 1 _ [.int .u8 b] rfl rfl (.inr ⟨_, rfl, NC.out⟩) P1.out (by unfold maxLen; omega) (by omega) SZ.out ?_; intro v' w2 ho hgr hat; have OA : Hid (w2.ownsRow w.heap.size 5 1 v' m.length (bcs m)) := Hid.mk' (by rw [HM.out, LM.out]; exact ho); have BW := Hid.mk' (HB.out.grown hgr SZ.out (own_lo OV.out)); obtain ⟨aa, cc, rfl, ba⟩ := (OB.of_own OA.out).1.len; have BA := Hid.mk' ba; have KQ := Hid.mk' (l5Quoted_any a c l w2 (HA.out.below BW.out) hc (by omega)); have KN := Hid.mk' (l5Note_any a c l w2 (HA.out.below BW.out) hc (by omega)); rw [hq] at KQ; rw [hn] at KN; have hcv := conv_bytesT cc ba; have KR := Hid.mk' (l4Read_any (strI m) w2 (by rw [strI_size, LM.out]; omega)); rw [HT.out] at KR; clear ho hgr hat ba) | (go_at_call 79; refine KQ.out.mono ?_; rintro e9 w9 ⟨rfl, hw9⟩; obtain rfl := hw9.symm) | (go_at_call 81; refine KN.out.mono ?_; rintro e9 w9 ⟨rfl, hw9⟩; obtain rfl := hw9.symm) | (go_at_call 80; refine KR.out.mono ?_; rintro e9 w9 ⟨t, vt, us, ok, rfl, hoa, hok, hb9⟩; obtain rfl : ok = false := (by cases ok; rfl; simp at hok); obtain ⟨pa, pc, rfl, haat⟩ := hoa.at; have hx := below_new w9 (.cells #[.int .i64 t.kd, .int .i64 t.by_, .string t.nm, .slice pa t.at_.length pc, .bool t.sh] 89); have hb10 := hb9.trans (hx.mono hb9.size); have OA := Hid.mk' (own_keep OA.out hb10); have BA := Hid.mk' (BA.out.below hb10); have BW := Hid.mk' (BW.out.trans (hb10.mono BW.out.size)); have KN := Hid.mk' (l5Note_any a c l _ (HA.out.below BW.out) hc (by omega)); rw [hn] at KN; clear hoa hok hb9 hx hb10 haat KR))
  refine (l5Go_any aa cc m _ BA.out hum.out (by have := LM.out; omega)).mono ?_
  rintro e w3 ⟨v3, rfl, o3, b3⟩
  have F := Hid.mk' (feed_go rfl rfl BW.out o3 b3)
  clear o3 b3
  go_wp2
  go_ret2
  exact F.out

set_option maxRecDepth 100000 in
set_option maxHeartbeats 1600000 in
theorem l5Tag_lx (a : Option Addr) (c : Nat) (l : List Int) (b : Nat) (w : World) (ha : BAt w a l) (hu : Byt l) (hc : l.length ≤ c) (hl : l.length ≤ 200) (hb : b ≤ 255) (h1 : b = 60) (hq : quotedB l = false) (hn : noteB l = false) :
    Calls Try.prog 77 #[.slice a l.length c, .int .u8 b] w fun e w' => FeedB l [(b : Int)] w e w' := by
  obtain ⟨m, hm⟩ : ∃ m, m = l ++ [(b : Int)] := ⟨_, rfl⟩
  have lm : m.length = l.length + 1 := by rw [hm]; simp
  have hum : Hid (Byt m) := Hid.mk' (by rw [hm]; exact hu.snoc b hb)
  have HM : Hid (bcs m = bcs l ++ [.int .u8 b]) := Hid.mk' (by rw [hm, bcs_append]; rfl)
  have e62 : ((b : Int) == 62) = false := by rw [beq_eq_false_iff_ne]; omega
  have e60 : ((b : Int) == 60) = true := by rw [beq_iff_eq]; omega
  clear h1
  have KC := Hid.mk' (l1Copy_own a c l w ha (by omega))
  have HA := Hid.mk' ha
  have HU := Hid.mk' hu
  have LM := Hid.mk' lm
  clear ha hu hm lm
  go_enter Try.func77, Try.ntmps77
  go_wp2_with (first | go_big_skip | fail)
  refine KC.out.mono ?_
  rintro e w1 ⟨v, rfl, ho, hbl⟩
  have VB := below_new w1 (.cells #[.int .u8 b] 5)
  have OV := Hid.mk' (own_keep ho VB)
  have NC := Hid.mk' (new_cells' w1 5 [.int .u8 b] w1.heap.size rfl)
  have HB := Hid.mk' (hbl.trans (VB.mono hbl.size))
  have SZ := Hid.mk' HB.out.size
  have P1 : Hid (∀ u ∈ ([.int .u8 b] : List Value), u.oneCell' = true) := Hid.mk' (by
    intro u hu'
    simp only [List.mem_cons, List.not_mem_nil, or_false] at hu'
    subst hu'; rfl)
  clear ho hbl VB KC
  go_wp2_with (first | go_big_skip | (at_builtin; refine wpList_append_at _ rfl (.tmp 11) (.tmp 13) 22 rfl w.heap.size 5 (.int .u8 0) 1 1 Try.underlying22 Try.info5 rfl (by decide) _ _ _ rfl OV.out _ 1 _ [.int .u8 b] rfl rfl (.inr ⟨_, rfl, NC.out⟩) P1.out (by unfold maxLen; omega) (by omega) SZ.out ?_; intro v' w2 ho hgr hat; have OA : Hid (w2.ownsRow w.heap.size 5 1 v' m.length (bcs m)) := Hid.mk' (by rw [HM.out, LM.out]; exact ho); have BW := Hid.mk' (HB.out.grown hgr SZ.out (own_lo OV.out)); obtain ⟨aa, cc, rfl, ba⟩ := (OB.of_own OA.out).1.len; have BA := Hid.mk' ba; have KQ := Hid.mk' (l5Quoted_any a c l w2 (HA.out.below BW.out) hc (by omega)); have KN := Hid.mk' (l5Note_any a c l w2 (HA.out.below BW.out) hc (by omega)); rw [hq] at KQ; rw [hn] at KN; clear ho hgr hat ba) | (go_at_call 79; refine KQ.out.mono ?_; rintro e9 w9 ⟨rfl, hw9⟩; obtain rfl := hw9.symm) | (go_at_call 81; refine KN.out.mono ?_; rintro e9 w9 ⟨rfl, hw9⟩; obtain rfl := hw9.symm))
  refine (l5Go_any a c l _ (HA.out.below BW.out) HU.out (by omega)).mono ?_
  rintro e w3 ⟨v3, rfl, o3, b3⟩
  have F := Hid.mk' (feed_next (b := (b : Int)) BW.out o3 b3)
  clear o3 b3
  go_wp2
  go_ret2
  exact F.out

end Go.Proofs.Ytlaeomnacgjcgaa

namespace Go.Proofs.Ytlaeomnacgjcgaa
open Go.RowKit

def FeedOne (t : TK) (w : World) (e : Ending) (w' : World) : Prop := ∃ v u va us w9, e = .returned (.tuple #[v, u]) ∧ w'.ownsRow w.heap.size 89 5 v 1 (tcs [t] [va]) ∧ OA w.heap.size w9 va t.at_ us ∧ Below w9.heap.size w9 w' ∧ (∀ k, v.ownBlock = some k → w9.heap.size ≤ k) ∧ (∀ k, u.ownBlock = some k → w9.heap.size ≤ k) ∧ w'.ownsRow w.heap.size 5 1 u 0 [] ∧ Ap v u ∧ Below w.heap.size w w9

theorem feed_one {w w2 w9 : World} {t : TK} {va : Value} {us : List Value} (hb : Below w.heap.size w w2) (hoa : OA w2.heap.size w9 va t.at_ us) (h9 : Below w2.heap.size w2 w9) (o : Obj) :
    FeedOne t w (.returned (.tuple #[.slice (some ⟨w9.heap.size + 1, 0, none⟩) 1 1, .slice (some ⟨w9.heap.size + 1 + 1, 0, none⟩) 0 0])) (((w9.alloc o).alloc (.cells #[.int .i64 t.kd, .int .i64 t.by_, .string t.nm, va, .bool t.sh] 89)).alloc (.cells #[] 5)) := by
  have s9 : w.heap.size ≤ w9.heap.size := Nat.le_trans hb.size h9.size
  have B1 := below_new w9 o
  have B2 := B1.alloc (by simp) (.cells #[.int .i64 t.kd, .int .i64 t.by_, .string t.nm, va, .bool t.sh] 89)
  have B3 := B2.alloc (by simp; omega) (.cells #[] 5)
  refine ⟨_, _, va, us, w9, rfl, ?_, hoa.keep hb.size (fun k _ _ => rfl), B3, fun k e => by simp [Value.ownBlock] at e; omega, fun k e => by simp [Value.ownBlock] at e; omega, ?_, fun k e1 e2 => by simp [Value.ownBlock] at e1 e2; omega, hb.trans (h9.mono hb.size)⟩
  · have := World.ownsRow_lit (base := w.heap.size) (e := 89) (size := 5) (w9.alloc o) #[.int .i64 t.kd, .int .i64 t.by_, .string t.nm, va, .bool t.sh] 1 (by simp; omega) (by unfold maxLen; omega) rfl
    rw [World.heap_size_alloc'] at this
    exact this.alloc _
  · have := World.ownsRow_lit (base := w.heap.size) (e := 5) (size := 1) ((w9.alloc o).alloc (.cells #[.int .i64 t.kd, .int .i64 t.by_, .string t.nm, va, .bool t.sh] 89)) #[] 0 (by simp; omega) (by unfold maxLen; omega) rfl
    rw [World.heap_size_alloc', World.heap_size_alloc'] at this
    exact this

set_option maxRecDepth 100000 in
set_option maxHeartbeats 1600000 in
theorem l5Tag_gt (a : Option Addr) (c : Nat) (l : List Int) (b : Nat) (w : World) (ha : BAt w a l) (hu : Byt l) (hc : l.length ≤ c) (hl : l.length ≤ 200) (hb : b ≤ 255) (h1 : b = 62) (hq : quotedB l = false) (t0 : TK) (ht : tagA (strU (l ++ [(b : Int)])) = some t0) :
    Calls Try.prog 77 #[.slice a l.length c, .int .u8 b] w fun e w' => FeedOne t0 w e w' := by
  obtain ⟨m, hm⟩ : ∃ m, m = l ++ [(b : Int)] := ⟨_, rfl⟩
  have lm : m.length = l.length + 1 := by rw [hm]; simp
  have hum : Hid (Byt m) := Hid.mk' (by rw [hm]; exact hu.snoc b hb)
  have HM : Hid (bcs m = bcs l ++ [.int .u8 b]) := Hid.mk' (by rw [hm, bcs_append]; rfl)
  have e62 : ((b : Int) == 62) = true := by rw [beq_iff_eq]; omega
  have e60 : ((b : Int) == 60) = false := by rw [beq_eq_false_iff_ne]; omega
  have HT : Hid (tagA (strI m).data.toList = some t0) := Hid.mk' (by rw [hm]; exact ht)
  clear h1 ht
  have KC := Hid.mk' (l1Copy_own a c l w ha (by omega))
  have HA := Hid.mk' ha
  have HU := Hid.mk' hu
  have LM := Hid.mk' lm
  clear ha hu hm lm
  go_enter Try.func77, Try.ntmps77
  go_wp2_with (first | go_big_skip | fail)
  refine KC.out.mono ?_
  rintro e w1 ⟨v, rfl, ho, hbl⟩
  have VB := below_new w1 (.cells #[.int .u8 b] 5)
  have OV := Hid.mk' (own_keep ho VB)
  have NC := Hid.mk' (new_cells' w1 5 [.int .u8 b] w1.heap.size rfl)
  have HB := Hid.mk' (hbl.trans (VB.mono hbl.size))
  have SZ := Hid.mk' HB.out.size
  have P1 : Hid (∀ u ∈ ([.int .u8 b] : List Value), u.oneCell' = true) := Hid.mk' (by
    intro u hu'
    simp only [List.mem_cons, List.not_mem_nil, or_false] at hu'
    subst hu'; rfl)
  clear ho hbl VB KC
  go_wp2_with (first | go_big_skip | (at_builtin; refine wpList_append_at _ rfl (.tmp 11) (.tmp 13) 22 rfl w.heap.size 5 (.int .u8 0) 1 1 Try.underlying22 Try.info5 rfl (by decide) _ _ _ rfl OV.out _ 1 _ [.int .u8 b] rfl rfl (.inr ⟨_, rfl, NC.out⟩) P1.out (by unfold maxLen; omega) (by omega) SZ.out ?_; intro v' w2 ho hgr hat; have OA : Hid (w2.ownsRow w.heap.size 5 1 v' m.length (bcs m)) := Hid.mk' (by rw [HM.out, LM.out]; exact ho); have BW := Hid.mk' (HB.out.grown hgr SZ.out (own_lo OV.out)); obtain ⟨aa, cc, rfl, ba⟩ := (OB.of_own OA.out).1.len; have BA := Hid.mk' ba; have KQ := Hid.mk' (l5Quoted_any a c l w2 (HA.out.below BW.out) hc (by omega)); have KN := Hid.mk' (l5Note_any a c l w2 (HA.out.below BW.out) hc (by omega)); rw [hq] at KQ; have hcv := conv_bytesT cc ba; have KR := Hid.mk' (l4Read_any (strI m) w2 (by rw [strI_size, LM.out]; omega)); rw [HT.out] at KR; clear ho hgr hat ba) | (go_at_call 79; refine KQ.out.mono ?_; rintro e9 w9 ⟨rfl, hw9⟩; obtain rfl := hw9.symm) | (go_at_call 81; refine KN.out.mono ?_; rintro e9 w9 ⟨rfl, hw9⟩; obtain rfl := hw9.symm) | (go_at_call 80; refine KR.out.mono ?_; rintro e9 w9 ⟨t, vt, us, ok, rfl, hoa, hok, hb9⟩; obtain rfl : ok = true := (by cases ok; simp at hok; rfl); obtain rfl : t = t0 := (by simp at hok; exact hok.symm); obtain ⟨pa, pc, rfl, haat⟩ := hoa.at; have F := Hid.mk' (feed_one BW.out hoa hb9 (.cells #[.int .i64 t.kd, .int .i64 t.by_, .string t.nm, .slice pa t.at_.length pc, .bool t.sh] 89)); clear hoa hok hb9 haat KR))
  go_ret2
  exact F.out

end Go.Proofs.Ytlaeomnacgjcgaa

namespace Go.Proofs.Ytlaeomnacgjcgaa
open Go.RowKit

def FeedX (r : List TK × List Int) (w : World) (e : Ending) (w' : World) : Prop := (∃ bs, r.1 = bytesT bs ∧ FeedB bs r.2 w e w') ∨ (∃ t, r = ([t], []) ∧ FeedOne t w e w')

def lenX (l : List Int) (b : Nat) : List TK × List Int := if 160 ≤ l.length + 1 then (bytesT (l ++ [(b : Int)]), []) else ([], l ++ [(b : Int)])
def tagX (l : List Int) (b : Nat) : List TK × List Int :=
  if b = 62 ∧ quotedB l = false then (match tagA (strU (l ++ [(b : Int)])) with
    | some t => ([t], [])
    | none => if noteB l = false then (bytesT (l ++ [(b : Int)]), []) else lenX l b)
  else if b = 60 ∧ quotedB l = false ∧ noteB l = false then (bytesT l, [(b : Int)]) else lenX l b
def feedX (l : List Int) (b : Nat) : List TK × List Int :=
  if l = [] then (bytesT (noneT b), noneH b) else if l.getD 0 0 = 38 then (bytesT (refT l b), refH l b) else tagX l b

theorem feedX_go {l : List Int} {b : Nat} {w : World} {e : Ending} {w' : World} (h6 : 160 ≤ l.length + 1) (h : FeedB (l ++ [(b : Int)]) [] w e w') : FeedX (lenX l b) w e w' := by
  unfold lenX
  rw [if_pos h6]
  exact .inl ⟨_, rfl, h⟩
theorem feedX_hold {l : List Int} {b : Nat} {w : World} {e : Ending} {w' : World} (h6 : ¬ 160 ≤ l.length + 1) (h : FeedB [] (l ++ [(b : Int)]) w e w') : FeedX (lenX l b) w e w' := by
  unfold lenX
  rw [if_neg h6]
  exact .inl ⟨[], rfl, h⟩

theorem l5Tag_any (a : Option Addr) (c : Nat) (l : List Int) (b : Nat) (w : World) (ha : BAt w a l) (hu : Byt l) (hc : l.length ≤ c) (hl : l.length ≤ 200) (hb : b ≤ 255) :
    Calls Try.prog 77 #[.slice a l.length c, .int .u8 b] w fun e w' => FeedX (tagX l b) w e w' := by
  by_cases h62 : b = 62
  · have n60 : ¬ b = 60 := by omega
    cases hq : quotedB l with
    | true =>
      have E : tagX l b = lenX l b := by
        unfold tagX
        rw [if_neg (by rw [hq]; simp), if_neg (by rw [hq]; simp)]
      rw [E]
      by_cases h6 : 160 ≤ l.length + 1
      · exact (l5Tag_gq1 a c l b w ha hu hc hl hb h62 hq h6).mono fun e w' h => feedX_go h6 h
      · exact (l5Tag_gq0 a c l b w ha hu hc hl hb h62 hq h6).mono fun e w' h => feedX_hold h6 h
    | false =>
      cases ht : tagA (strU (l ++ [(b : Int)])) with
      | some t =>
        have E : tagX l b = ([t], []) := by
          unfold tagX
          rw [if_pos ⟨h62, hq⟩, ht]
        rw [E]
        exact (l5Tag_gt a c l b w ha hu hc hl hb h62 hq t ht).mono fun e w' h => .inr ⟨t, rfl, h⟩
      | none =>
        cases hn : noteB l with
        | false =>
          have E : tagX l b = (bytesT (l ++ [(b : Int)]), []) := by
            unfold tagX
            rw [if_pos ⟨h62, hq⟩, ht]
            simp only [hn, if_true]
          rw [E]
          exact (l5Tag_gx a c l b w ha hu hc hl hb h62 ht hq hn).mono fun e w' h => .inl ⟨_, rfl, h⟩
        | true =>
          have E : tagX l b = lenX l b := by
            unfold tagX
            rw [if_pos ⟨h62, hq⟩, ht]
            simp only [hn, Bool.true_eq_false, if_false]
          rw [E]
          by_cases h6 : 160 ≤ l.length + 1
          · exact (l5Tag_gn1 a c l b w ha hu hc hl hb h62 ht hq hn h6).mono fun e w' h => feedX_go h6 h
          · exact (l5Tag_gn0 a c l b w ha hu hc hl hb h62 ht hq hn h6).mono fun e w' h => feedX_hold h6 h
  · by_cases h60 : b = 60
    · cases hq : quotedB l with
      | true =>
        have E : tagX l b = lenX l b := by
          unfold tagX
          rw [if_neg (by rw [hq]; simp), if_neg (by rw [hq]; simp)]
        rw [E]
        by_cases h6 : 160 ≤ l.length + 1
        · exact (l5Tag_lq1 a c l b w ha hu hc hl hb h60 hq h6).mono fun e w' h => feedX_go h6 h
        · exact (l5Tag_lq0 a c l b w ha hu hc hl hb h60 hq h6).mono fun e w' h => feedX_hold h6 h
      | false =>
        cases hn : noteB l with
        | true =>
          have E : tagX l b = lenX l b := by
            unfold tagX
            rw [if_neg (fun h => h62 h.1), if_neg (by rw [hn]; simp)]
          rw [E]
          by_cases h6 : 160 ≤ l.length + 1
          · exact (l5Tag_ln1 a c l b w ha hu hc hl hb h60 hq hn h6).mono fun e w' h => feedX_go h6 h
          · exact (l5Tag_ln0 a c l b w ha hu hc hl hb h60 hq hn h6).mono fun e w' h => feedX_hold h6 h
        | false =>
          have E : tagX l b = (bytesT l, [(b : Int)]) := by
            unfold tagX
            rw [if_neg (fun h => h62 h.1), if_pos ⟨h60, hq, hn⟩]
          rw [E]
          exact (l5Tag_lx a c l b w ha hu hc hl hb h60 hq hn).mono fun e w' h => .inl ⟨_, rfl, h⟩
    · have E : tagX l b = lenX l b := by
        unfold tagX
        rw [if_neg (fun h => h62 h.1), if_neg (fun h => h60 h.1)]
      rw [E]
      by_cases h6 : 160 ≤ l.length + 1
      · exact (l5Tag_o1 a c l b w ha hu hc hl hb h62 h60 h6).mono fun e w' h => feedX_go h6 h
      · exact (l5Tag_o0 a c l b w ha hu hc hl hb h62 h60 h6).mono fun e w' h => feedX_hold h6 h

theorem FeedX.pair {r : List TK × List Int} {w w' : World} {e : Ending} (h : FeedX r w e w') : ∃ v u, e = .returned (.tuple #[v, u]) := by
  rcases h with ⟨bs, _, v, u, h, _⟩ | ⟨t, _, v, u, _, _, _, h, _⟩
  · exact ⟨v, u, h⟩
  · exact ⟨v, u, h⟩

set_option maxRecDepth 100000 in
set_option maxHeartbeats 1600000 in
theorem l5Feed_any (a : Option Addr) (c : Nat) (l : List Int) (b : Nat) (w : World) (ha : BAt w a l) (hu : Byt l) (hc : l.length ≤ c) (hl : l.length ≤ 200) (hb : b ≤ 255) :
    Calls Try.prog 70 #[.slice a l.length c, .int .u8 b] w fun e w' => FeedX (feedX l b) w e w' := by
  by_cases h0 : l = []
  · have K : Hid (Calls Try.prog 75 #[.int .u8 b] w fun e w' => FeedX (feedX l b) w e w') := Hid.mk' ((l5None_any b w (by omega) (by omega)).mono fun e w' h => .inl ⟨noneT b, by unfold feedX; rw [if_pos h0], by unfold feedX; rw [if_pos h0]; exact h⟩)
    have z : (l.length : Int) = 0 := by rw [h0]; rfl
    clear ha hu h0
    go_enter Try.func70, Try.ntmps70
    go_wp2_with (first | go_big_skip | fail)
    refine K.out.mono ?_
    intro e w1 h
    obtain ⟨v, u, rfl⟩ := h.pair
    have F := Hid.mk' h
    clear h
    go_wp2
    go_ret2
    exact F.out
  · have hp : 0 < l.length := List.length_pos_iff.2 h0
    have z : ¬ (l.length : Int) = 0 := by omega
    rcases id ha with h | ⟨g, o, rfl, hbs, hcl⟩
    · exact absurd h h0
    obtain ⟨y, hy⟩ : ∃ y, l.getD 0 0 = y := ⟨_, rfl⟩
    have hcell : w.cell? ⟨g, o, none⟩ = some (.int .u8 y) := by
      rw [← hy]; exact hcl 0 hp
    by_cases e38 : y = 38
    · have K : Hid (Calls Try.prog 76 #[.slice (some ⟨g, o, none⟩) l.length c, .int .u8 b] w fun e w' => FeedX (feedX l b) w e w') := Hid.mk' ((l5Ref_any _ c l b w ha hu hl hb).mono fun e w' h => .inl ⟨refT l b, by unfold feedX; rw [if_neg h0, if_pos (hy.trans e38)], by unfold feedX; rw [if_neg h0, if_pos (hy.trans e38)]; exact h⟩)
      have e38b : (y == 38) = true := by rw [beq_iff_eq]; exact e38
      clear ha hu h0 hcl hy e38
      go_enter Try.func70, Try.ntmps70
      go_wp2_with (first | go_big_skip | fail)
      refine K.out.mono ?_
      intro e w1 h
      obtain ⟨v, u, rfl⟩ := h.pair
      have F := Hid.mk' h
      clear h
      go_wp2
      go_ret2
      exact F.out
    · have K : Hid (Calls Try.prog 77 #[.slice (some ⟨g, o, none⟩) l.length c, .int .u8 b] w fun e w' => FeedX (feedX l b) w e w') := Hid.mk' ((l5Tag_any _ c l b w ha hu hc hl hb).mono fun e w' h => by unfold feedX; rw [if_neg h0, if_neg (fun h => e38 (hy.symm.trans h))]; exact h)
      have e38b : (y == 38) = false := by rw [beq_eq_false_iff_ne]; exact e38
      clear ha hu h0 hcl hy e38
      go_enter Try.func70, Try.ntmps70
      go_wp2_with (first | go_big_skip | fail)
      refine K.out.mono ?_
      intro e w1 h
      obtain ⟨v, u, rfl⟩ := h.pair
      have F := Hid.mk' h
      clear h
      go_wp2
      go_ret2
      exact F.out

end Go.Proofs.Ytlaeomnacgjcgaa

namespace Go.Proofs.Ytlaeomnacgjcgaa
open Go.RowKit

theorem noneT_len (b : Int) : (noneT b).length ≤ 1 := by unfold noneT; split <;> simp
theorem noneH_len (b : Int) : (noneH b).length ≤ 1 := by unfold noneH; split <;> simp

theorem lenX_held (l : List Int) (b : Nat) : (lenX l b).2.length ≤ 160 := by
  unfold lenX
  split
  · simp
  · simp; omega
theorem lenX_len (l : List Int) (b : Nat) : (lenX l b).1.length ≤ l.length + 1 := by
  unfold lenX
  split
  · simp [bytesT]
  · simp

theorem tagX_held (l : List Int) (b : Nat) : (tagX l b).2.length ≤ 160 := by
  unfold tagX
  split
  · split
    · simp
    · split
      · simp
      · exact lenX_held l b
  · split
    · simp
    · exact lenX_held l b
theorem tagX_len (l : List Int) (b : Nat) : (tagX l b).1.length ≤ l.length + 1 := by
  unfold tagX
  split
  · split
    · simp
    · split
      · simp [bytesT]
      · exact lenX_len l b
  · split
    · simp [bytesT]
    · exact lenX_len l b

theorem refH_len (l : List Int) (b : Nat) : (refH l b).length ≤ 160 := by
  have := noneH_len (b : Int)
  unfold refH
  split
  · simp
  · split
    · split
      · simp
      · simp; omega
    · omega
theorem refT_len (l : List Int) (b : Nat) : (refT l b).length ≤ l.length + 1 := by
  have := noneT_len (b : Int)
  unfold refT
  split
  · split <;> simp
  · split
    · split <;> simp
    · simp; omega

theorem feedX_held (l : List Int) (b : Nat) : (feedX l b).2.length ≤ 160 := by
  have := noneH_len (b : Int)
  unfold feedX
  split
  · show (noneH (b : Int)).length ≤ 160
    omega
  · split
    · exact refH_len l b
    · exact tagX_held l b
theorem feedX_len (l : List Int) (b : Nat) : (feedX l b).1.length ≤ l.length + 1 := by
  have := noneT_len (b : Int)
  unfold feedX
  split
  · show (bytesT (noneT (b : Int))).length ≤ _
    rw [bytesT_len]; omega
  · split
    · show (bytesT (refT l b)).length ≤ _
      rw [bytesT_len]; exact refT_len l b
    · exact tagX_len l b

theorem Byt.nil : Byt [] := fun k h => absurd h (Nat.not_lt_zero _)
theorem Byt.one {b : Nat} (hb : b ≤ 255) : Byt [(b : Int)] := Byt.nil.snoc b hb

theorem noneH_byt {b : Nat} (hb : b ≤ 255) : Byt (noneH (b : Int)) := by
  unfold noneH
  split
  · exact Byt.one hb
  · exact Byt.nil
theorem lenX_byt {l : List Int} {b : Nat} (h : Byt l) (hb : b ≤ 255) : Byt (lenX l b).2 := by
  unfold lenX
  split
  · exact Byt.nil
  · exact h.snoc b hb
theorem feedX_byt {l : List Int} {b : Nat} (h : Byt l) (hb : b ≤ 255) : Byt (feedX l b).2 := by
  unfold feedX
  split
  · exact noneH_byt hb
  · split
    · show Byt (refH l b)
      unfold refH
      split
      · exact Byt.nil
      · split
        · split
          · exact Byt.nil
          · exact h.snoc b hb
        · exact noneH_byt hb
    · unfold tagX
      split
      · split
        · exact Byt.nil
        · split
          · exact Byt.nil
          · exact lenX_byt h hb
      · split
        · exact Byt.one hb
        · exact lenX_byt h hb

def allX (ts : List TK) (hs : List Int) : List Int → List TK × List Int
  | [] => (ts, hs)
  | x :: r => allX (ts ++ (feedX hs x.toNat).1) (feedX hs x.toNat).2 r

def lexX (l : List Int) : List TK := (allX [] [] l).1 ++ bytesT (allX [] [] l).2

theorem allX_append (m : List Int) : ∀ (l : List Int) (ts : List TK) (hs : List Int), allX ts hs (l ++ m) = allX (allX ts hs l).1 (allX ts hs l).2 m
  | [], _, _ => rfl
  | x :: l, ts, hs => allX_append m l _ _

def TokIn (base : Nat) (w : World) (g : Option Nat) (t : TK) (u : Value) : Prop := (t.at_ = [] ∧ u = .slice none 0 0) ∨ ∃ lo w9 rs, base ≤ lo ∧ OA lo w9 u t.at_ rs ∧ w9.heap.size ≤ w.heap.size ∧ (∀ k, lo ≤ k → k < w9.heap.size → w.heap[k]? = w9.heap[k]?) ∧ (∀ k, g = some k → k < lo ∨ w9.heap.size ≤ k)

theorem TokIn.below {base : Nat} {w w' : World} {g : Option Nat} {t : TK} {u : Value} (h : TokIn base w g t u) (hb : Below w.heap.size w w') : TokIn base w' g t u := by
  rcases h with h | ⟨lo, w9, rs, h1, h2, h3, h4, h5⟩
  · exact .inl h
  · exact .inr ⟨lo, w9, rs, h1, h2, Nat.le_trans h3 hb.size, fun k a b => (hb.block k (by omega)).trans (h4 k a b), h5⟩

theorem TokIn.held {base : Nat} {w : World} {g : Option Nat} {t : TK} {u : Value} (h : TokIn base w g t u) : ∃ rs, OA base w u t.at_ rs := by
  rcases h with ⟨h1, h2⟩ | ⟨lo, w9, rs, h1, h2, h3, h4, h5⟩
  · rw [h1, h2]; exact ⟨[], OA.nil _ _⟩
  · exact ⟨rs, h2.keep h1 h4⟩

end Go.Proofs.Ytlaeomnacgjcgaa

namespace Go.Proofs.Ytlaeomnacgjcgaa
open Go.RowKit

def tkK (l : List TK) (k : Nat) : TK := l.getD k ⟨0, 0, ⟨#[]⟩, [], false⟩

def tsz (t : TK) : Nat := t.nm.size + t.at_.length + asz t.at_
def tssz : List TK → Nat
  | [] => 0
  | x :: r => tsz x + tssz r

theorem tssz_take (l : List TK) : ∀ k, k < l.length → tssz (l.take (k + 1)) = tssz (l.take k) + tsz (tkK l k) := by
  induction l with
  | nil => intro k h; exact absurd h (Nat.not_lt_zero _)
  | cons x r ih =>
    intro k hk
    cases k with
    | zero => simp [tssz, tkK]
    | succ k =>
      have := ih k (by simpa using hk)
      simp only [List.take_succ_cons, tssz]
      rw [this]
      have e : tkK (x :: r) (k + 1) = tkK r k := by simp [tkK]
      rw [e]; omega

theorem tssz_le (l : List TK) (k : Nat) : tssz (l.take k) ≤ tssz l := by
  induction l generalizing k with
  | nil => simp [tssz]
  | cons x r ih =>
    cases k with
    | zero => simp [tssz]
    | succ k => simp only [List.take_succ_cons, tssz]; have := ih k; omega

end Go.Proofs.Ytlaeomnacgjcgaa

namespace Go.Proofs.Ytlaeomnacgjcgaa
open Go.RowKit

theorem Byt.memD {l : List Int} (h : Byt l) : ∀ x ∈ l, 0 ≤ x ∧ x ≤ 255 := fun x hx => by
  obtain ⟨k, hk, e⟩ := List.getElem_of_mem hx
  have := h k hk
  simpa [List.getD_eq_getElem?_getD, hk, e] using this

theorem allX_bytD : ∀ (l : List Int) (ts : List TK) (hs : List Int), (∀ x ∈ l, 0 ≤ x ∧ x ≤ 255) → Byt hs → Byt (allX ts hs l).2
  | [], _, _, _, h => h
  | x :: l, ts, hs, hl, h => allX_bytD l _ _ (fun y hy => hl y (List.mem_cons_of_mem _ hy)) (feedX_byt h (by have := hl x (List.mem_cons_self ..); omega))

def KdB (l : List TK) : Prop := ∀ t ∈ l, t.kd = 1 → 0 ≤ t.by_ ∧ t.by_ ≤ 255

theorem bytOf {l : List Int} (h : ∀ x ∈ l, 0 ≤ x ∧ x ≤ 255) : Byt l := fun k hk => by
  have := h (l[k]) (List.getElem_mem hk)
  simpa [List.getD_eq_getElem?_getD, hk] using this

theorem KdB.nil : KdB [] := fun t h => absurd h (by simp)
theorem KdB.app {l m : List TK} (h : KdB l) (k : KdB m) : KdB (l ++ m) := fun t ht => by
  rcases List.mem_append.1 ht with ht | ht
  · exact h t ht
  · exact k t ht
theorem bytesT_kd {l : List Int} (h : Byt l) : KdB (bytesT l) := by
  intro t ht _
  unfold bytesT at ht
  obtain ⟨b, hb, rfl⟩ := List.mem_map.1 ht
  exact h.memD b hb
theorem snoc_byt {l : List Int} {b : Nat} (h : Byt l) (hb : b ≤ 255) : Byt (l ++ [(b : Int)]) := bytOf (fun x hx => by
  rcases List.mem_append.1 hx with hx | hx
  · exact h.memD x hx
  · rw [List.mem_singleton] at hx; omega)

theorem tagA_kd {L : List UInt8} {t : TK} (h : tagA L = some t) : t.kd ≠ 1 := by
  unfold tagA at h
  split at h
  · split at h
    · split at h
      · injection h with h; rw [← h]; simp
      · cases h
    · split at h
      · split at h
        · injection h with h; rw [← h]; simp
        · cases h
      · split at h
        · split at h
          · cases h
          · injection h with h; rw [← h]; simp
        · cases h
  · cases h

theorem lenX_kd {l : List Int} {b : Nat} (h : Byt l) (hb : b ≤ 255) : KdB (lenX l b).1 := by
  unfold lenX
  split
  · exact bytesT_kd (snoc_byt h hb)
  · exact KdB.nil

theorem tagX_kd {l : List Int} {b : Nat} (h : Byt l) (hb : b ≤ 255) : KdB (tagX l b).1 := by
  unfold tagX
  split
  · split
    · next t e =>
      intro u hu
      rw [List.mem_singleton] at hu
      rw [hu]
      exact fun k => absurd k (tagA_kd e)
    · split
      · exact bytesT_kd (snoc_byt h hb)
      · exact lenX_kd h hb
  · split
    · exact bytesT_kd h
    · exact lenX_kd h hb

theorem noneT_byt {b : Nat} (hb : b ≤ 255) : Byt (noneT (b : Int)) := by
  unfold noneT
  split
  · exact Byt.nil
  · exact bytOf (fun x hx => by rw [List.mem_singleton] at hx; omega)

theorem feedX_kd {l : List Int} {b : Nat} (h : Byt l) (hb : b ≤ 255) : KdB (feedX l b).1 := by
  unfold feedX
  split
  · exact bytesT_kd (noneT_byt hb)
  · split
    · refine bytesT_kd ?_
      unfold refT
      split
      · split
        · refine bytOf (fun x hx => ?_)
          rw [List.mem_singleton] at hx
          have := refOf_byte (strU (l ++ [(b : Int)]))
          omega
        · exact snoc_byt h hb
      · split
        · split
          · exact snoc_byt h hb
          · exact Byt.nil
        · exact bytOf (fun x hx => by
            rcases List.mem_append.1 hx with hx | hx
            · exact h.memD x hx
            · exact (noneT_byt hb).memD x hx)
    · exact tagX_kd h hb

theorem allX_kd : ∀ (l : List Int) (ts : List TK) (hs : List Int), (∀ x ∈ l, 0 ≤ x ∧ x ≤ 255) → Byt hs → KdB ts → KdB (allX ts hs l).1
  | [], ts, hs, _, _, h => h
  | x :: r, ts, hs, hu, hb, h => by
    unfold allX
    have hx := hu x (by simp)
    exact allX_kd r _ _ (fun y hy => hu y (by simp [hy])) (feedX_byt hb (by omega)) (h.app (feedX_kd hb (by omega)))

theorem lexX_kd {d : List Int} (h : Byt d) : KdB (lexX d) := by
  unfold lexX
  exact (allX_kd d [] [] (fun x hx => h.memD x hx) Byt.nil KdB.nil).app (bytesT_kd (allX_bytD d [] [] (fun x hx => h.memD x hx) Byt.nil))

theorem KdB.at {l : List TK} (h : KdB l) : ∀ k, k < l.length → (tkK l k).kd = 1 → 0 ≤ (tkK l k).by_ ∧ (tkK l k).by_ ≤ 255 := fun k hk => by
  refine h _ ?_
  unfold tkK
  rw [List.getD_eq_getElem?_getD, List.getElem?_eq_getElem hk]
  exact List.getElem_mem hk

end Go.Proofs.Ytlaeomnacgjcgaa

namespace Go.Proofs.Ytlaeomnacgjcgaa
open Go.RowKit

theorem TokIn.grown {base : Nat} {w w' : World} {g g' : Option Nat} {t : TK} {u : Value} (h : TokIn base w g t u) (hg : w.grownBy w' g) (hs : w.heap.size ≤ w'.heap.size) (e : g' = g ∨ g' = some w.heap.size) : TokIn base w' g' t u := by
  rcases h with h | ⟨lo, w9, rs, h1, h2, h3, h4, h5⟩
  · exact .inl h
  · refine .inr ⟨lo, w9, rs, h1, h2, Nat.le_trans h3 hs, fun k a b => (hg.block k (by omega) (fun e => ?_)).trans (h4 k a b), fun k hk => ?_⟩
    · have := h5 k e.symm; omega
    · rcases e with e | e
      · exact h5 k (e.symm.trans hk)
      · rw [e] at hk; injection hk with hk; omega

structure TokS (base : Nat) (w : World) (v : Value) (ts : List TK) (us : List Value) : Prop where
  len : us.length = ts.length
  row : w.ownsRow base 89 5 v ts.length (tcs ts us)
  one : ∀ u ∈ us, u.oneCell' = true
  all : ∀ (i : Nat) t u, ts[i]? = some t → us[i]? = some u → TokIn base w v.ownBlock t u

theorem nils_get {n i : Nat} {u : Value} (h : (nils n)[i]? = some u) : u = .slice none 0 0 := by
  unfold nils at h
  rw [List.getElem?_replicate] at h
  split at h
  · injection h with h; exact h.symm
  · cases h

theorem FeedX.toks {r : List TK × List Int} {w w' : World} {e : Ending} (h : FeedX r w e w') : ∃ v u us, e = .returned (.tuple #[v, u]) ∧ TokS w.heap.size w' v r.1 us ∧ (∀ g, (∀ k, g = some k → k < w.heap.size) → ∀ (i : Nat) t u, r.1[i]? = some t → us[i]? = some u → TokIn w.heap.size w' g t u) ∧ w'.ownsRow w.heap.size 5 1 u r.2.length (bcs r.2) ∧ Below w.heap.size w w' := by
  rcases h with ⟨bs, e1, v, u, rfl, o1, o2, ap, hb⟩ | ⟨t, rfl, v, u, va, us, w9, rfl, o1, oa, b9, lv, lu, o2, ap, hb⟩
  · have A : ∀ g (i : Nat) t u, r.1[i]? = some t → (nils bs.length)[i]? = some u → TokIn w.heap.size w' g t u := by
      intro g i t u ht hu
      refine .inl ⟨?_, nils_get hu⟩
      rw [e1] at ht
      unfold bytesT at ht
      rw [List.getElem?_map] at ht
      cases h : bs[i]? with
      | none => rw [h] at ht; cases ht
      | some x => rw [h] at ht; injection ht with ht; rw [← ht]; rfl
    refine ⟨v, u, nils bs.length, rfl, ⟨by rw [nils_len, e1, bytesT_len], by rw [e1, bytesT_len]; exact o1, nils_one _, fun i t u => A _ i t u⟩, fun g _ => A g, o2, hb⟩
  · have A : ∀ g, (∀ k, g = some k → k < w.heap.size ∨ w9.heap.size ≤ k) → ∀ (i : Nat) t' u, [t][i]? = some t' → [va][i]? = some u → TokIn w.heap.size w' g t' u := by
      intro g hg i t' u ht hu
      cases i with
      | succ i => simp at ht
      | zero =>
        simp at ht hu
        subst ht hu
        exact .inr ⟨w.heap.size, w9, us, Nat.le_refl _, oa, b9.size, fun k _ hk => b9.block k hk, hg⟩
    have o1' : va.oneCell' = true := by
      obtain ⟨a, c, rfl, _⟩ := oa.at
      rfl
    refine ⟨v, u, [va], rfl, ⟨rfl, o1, fun u hu => ?_, A _ (fun k e => .inr (lv k e))⟩, fun g hg => A g (fun k e => .inl (hg k e)), o2, hb.trans (b9.mono hb.size)⟩
    rw [List.mem_singleton] at hu
    rw [hu]; exact o1'

end Go.Proofs.Ytlaeomnacgjcgaa

namespace Go.Proofs.Ytlaeomnacgjcgaa
open Go.RowKit

theorem TokIn.down {base base' : Nat} {w : World} {g : Option Nat} {t : TK} {u : Value} (h : TokIn base w g t u) (hb : base' ≤ base) : TokIn base' w g t u := by
  rcases h with h | ⟨lo, w9, rs, h1, h2⟩
  · exact .inl h
  · exact .inr ⟨lo, w9, rs, Nat.le_trans hb h1, h2⟩

theorem own_cap {w : World} {base : Nat} {e : TypeId} {size : Nat} {v : Value} {n : Nat} {xs : List Value} (h : w.ownsRow base e size v n xs) : ∃ a c, v = .slice a n c ∧ n ≤ c := by
  rcases h.2 with ⟨rfl, h0⟩ | ⟨g, cap, cur, rfl, _, _, h, _⟩
  · subst h0; exact ⟨none, 0, rfl, Nat.le_refl _⟩
  · exact ⟨_, _, rfl, h⟩

theorem TokS.app {base : Nat} {w w1 w2 : World} {v v' : Value} {ts ts1 : List TK} {us us1 : List Value} (h : TokS base w v ts us) (hw : Below w.heap.size w w1) (hb : base ≤ w.heap.size)
    (hA : ∀ (i : Nat) t u, ts1[i]? = some t → us1[i]? = some u → TokIn w.heap.size w1 v.ownBlock t u) (hl : us1.length = ts1.length) (h1 : ∀ u ∈ us1, u.oneCell' = true)
    (o : w2.ownsRow base 89 5 v' (ts.length + ts1.length) (tcs ts us ++ tcs ts1 us1)) (hg : w1.grownBy w2 v.ownBlock) (e : v'.ownBlock = v.ownBlock ∨ v'.ownBlock = some w1.heap.size) : TokS base w2 v' (ts ++ ts1) (us ++ us1) := by
  refine ⟨by rw [List.length_append, List.length_append, h.len, hl], by rw [tcs_app _ _ _ _ h.len, List.length_append]; exact o, fun u hu => ?_, fun i t u ht hu => ?_⟩
  · rcases List.mem_append.1 hu with hu | hu
    · exact h.one u hu
    · exact h1 u hu
  · by_cases hi : i < ts.length
    · rw [List.getElem?_append_left hi] at ht
      rw [List.getElem?_append_left (by rw [h.len]; exact hi)] at hu
      exact ((h.all i t u ht hu).below hw).grown hg hg.size e
    · rw [List.getElem?_append_right (by omega)] at ht
      rw [List.getElem?_append_right (by rw [h.len]; omega), h.len] at hu
      exact ((hA _ t u ht hu).down hb).grown hg hg.size e

end Go.Proofs.Ytlaeomnacgjcgaa

namespace Go.Proofs.Ytlaeomnacgjcgaa
open Go.RowKit

set_option maxRecDepth 100000 in
set_option maxHeartbeats 3200000 in
theorem l5All_any (a ad : Option Addr) (c cd : Nat) (l d : List Int) (w : World) (ha : BAt w a l) (hd : BAt w ad d) (hu : Byt l) (hl : l.length ≤ 160) (hdu : Byt d) (hdl : d.length ≤ 1000000) :
    Calls Try.prog 59 #[.slice a l.length c, .slice ad d.length cd] w fun e w' => ∃ v u us, e = .returned (.tuple #[v, u]) ∧ TokS w.heap.size w' v (allX [] l d).1 us ∧ w'.ownsRow w.heap.size 5 1 u (allX [] l d).2.length (bcs (allX [] l d).2) ∧ (allX [] l d).1.length ≤ 161 * d.length ∧ (allX [] l d).2.length ≤ 160 ∧ Byt (allX [] l d).2 ∧ Below w.heap.size w w' := by
  have HD := Hid.mk' hd
  have B0 := Hid.mk' (below_new w (.cells #[] 89))
  have O0 := Hid.mk' (World.ownsRow_lit (base := w.heap.size) (e := 89) (size := 5) w #[] 0 (Nat.le_refl _) (by unfold maxLen; omega) rfl)
  have KC := Hid.mk' (l1Copy_own a c l _ (ha.below B0.out) (by omega))
  have HU := Hid.mk' hu
  clear ha hd hu
  go_enter Try.func59, Try.ntmps59
  go_wp2_with (first | go_big_skip | fail)
  refine KC.out.mono ?_
  rintro e w1 ⟨n0, rfl, on, bn⟩
  have T0 : Hid (TokS w.heap.size w1 (.slice (some ⟨w.heap.size, 0, none⟩) 0 0) [] []) := Hid.mk' ⟨rfl, own_keep O0.out bn, fun u hu => (by cases hu), fun i t u ht _ => (by simp at ht)⟩
  have N0 := Hid.mk' (own_down on B0.out.size)
  have B1 := Hid.mk' (B0.out.trans (bn.mono B0.out.size))
  clear on bn KC O0 B0
  go_wp2
  go_loopw [6, 7, 8] (fun v n i wr => ∃ (k : Nat) (us : List Value), k ≤ d.length ∧ i = .int .i64 k ∧ TokS w.heap.size wr v (allX [] l (d.take k)).1 us ∧ wr.ownsRow w.heap.size 5 1 n (allX [] l (d.take k)).2.length (bcs (allX [] l (d.take k)).2) ∧ (allX [] l (d.take k)).1.length ≤ 161 * k ∧ (allX [] l (d.take k)).2.length ≤ 160 ∧ Byt (allX [] l (d.take k)).2 ∧ Below w.heap.size w wr) (fun _ _ i _ => d.length - (intOf i).toNat)
  case atStart => exact ⟨0, [], Nat.zero_le _, rfl, T0.out, N0.out, Nat.zero_le _, hl, HU.out, B1.out⟩
  case round =>
    obtain ⟨k, us, hk, rfl, ht, hn, l1, l2, hby, hbl⟩ := hrel
    by_cases hlt : k < d.length
    · have ci : (k : Int) < (d.length : Int) := by omega
      rcases HD.out with hd | ⟨g, o, rfl, hbs, hc⟩
      · exact absurd hlt (by rw [hd]; exact Nat.not_lt_zero _)
      obtain ⟨y0, y1⟩ := hdu k hlt
      obtain ⟨y, hy⟩ : ∃ y : Nat, d.getD k 0 = (y : Int) := ⟨(d.getD k 0).toNat, by omega⟩
      rw [hy] at y1
      have hcell : wr.cell? ⟨g, o + k, none⟩ = some (.int .u8 y) := by rw [← hy]; exact (hbl.cell hbs).trans (hc k hlt)
      have ES : Hid (allX [] l (d.take (k + 1)) = ((allX [] l (d.take k)).1 ++ (feedX (allX [] l (d.take k)).2 y).1, (feedX (allX [] l (d.take k)).2 y).2)) := Hid.mk' (by
        rw [take_snoc_int hlt, allX_append, hy]
        simp [allX])
      clear hc hy y0
      generalize (allX [] l (d.take k)).1 = T at *
      generalize (allX [] l (d.take k)).2 = H at *
      have fl := feedX_len H y
      have fh := Hid.mk' (feedX_held H y)
      have fb := Hid.mk' (feedX_byt (b := y) hby (by omega))
      obtain ⟨an, cn, rfl, hcn⟩ := own_cap hn
      obtain ⟨an', cn', en, ban⟩ := own_bat hn
      injection en with en1 _ en3
      subst en1 en3
      have KF := Hid.mk' (l5Feed_any an cn H y wr ban hby hcn (by omega) (by omega))
      generalize feedX H y = R at *
      have HT := Hid.mk' ht
      have HB := Hid.mk' hbl
      clear ht hn hby hbl ban
      go_wp2_with (first | go_big_skip | fail)
      refine KF.out.mono ?_
      intro e w2 hx
      obtain ⟨v1, u1, us1, rfl, t1, hA, o1, b1⟩ := hx.toks
      have OV := Hid.mk' (own_keep HT.out.row b1)
      obtain ⟨a1, c1, rfl, s1⟩ := own_src t1.row
      have S1 := Hid.mk' s1
      have T1 := Hid.mk' t1
      have LN := Hid.mk' (tcs_len R.1 us1 t1.len)
      have P1 := Hid.mk' (tcs_one R.1 us1 t1.one)
      have HA := Hid.mk' (hA _ (fun k hk => (HT.out.row.lt k hk).2))
      have O1 := Hid.mk' o1
      have B2 := Hid.mk' b1
      have SZ := Hid.mk' (Nat.le_trans HB.out.size b1.size)
      clear hx t1 hA o1 b1 s1 KF
      go_wp2_with (at_builtin; refine wpList_append_at _ rfl (.tmp 29) (.tmp 30) 82 rfl w.heap.size 89 (.agg #[.int .i64 0, .int .i64 0, .string ⟨#[]⟩, .slice none 0 0, .bool false]) 5 64 Try.underlying82 Try.infoTok rfl (by decide) _ _ _ rfl OV.out _ R.1.length _ (tcs R.1 us1) rfl LN.out S1.out P1.out (by unfold maxLen; omega) (by omega) SZ.out ?_; intro v' w3 o3 hg3 at3)
      have T3 := Hid.mk' (TokS.app HT.out B2.out HB.out.size HA.out T1.out.len T1.out.one o3 hg3 at3)
      have B3 := Hid.mk' ((HB.out.trans (B2.out.mono HB.out.size)).grown hg3 SZ.out (own_lo OV.out))
      have U3 : Hid (w3.ownsRow w.heap.size 5 1 u1 R.2.length (bcs R.2)) := Hid.mk' (own_down (O1.out.kept hg3 (by
        cases hu1 : u1.ownBlock with
        | none => exact .inl rfl
        | some q => exact .inr (fun e => by
            have h1 := (O1.out.lt q hu1).1
            have h2 := (HT.out.row.lt q e.symm).2
            omega))) HB.out.size)
      have L3 : Hid ((T ++ R.1).length ≤ 161 * (k + 1)) := Hid.mk' (by rw [List.length_append]; omega)
      clear o3 hg3 at3
      go_roundw
      case rel => exact ⟨k + 1, us ++ us1, by omega, by go_num, by rw [ES.out]; exact T3.out, by rw [ES.out]; exact U3.out, by rw [ES.out]; exact L3.out, by rw [ES.out]; exact fh.out, by rw [ES.out]; exact fb.out, B3.out⟩
      case measure => simp [intOf]; omega
    · have ci : ¬ (k : Int) < (d.length : Int) := by omega
      have e : k = d.length := by omega
      subst e
      rw [List.take_length] at ht hn l1 l2 hby
      have F := Hid.mk' (And.intro ht (And.intro hn (And.intro l1 (And.intro l2 (And.intro hby hbl)))))
      clear ht hn l1 l2 hby hbl
      go_wp2
      go_ret2
      exact ⟨_, _, rfl, ⟨us, F.out.1⟩, F.out.2⟩

end Go.Proofs.Ytlaeomnacgjcgaa

namespace Go.Proofs.Ytlaeomnacgjcgaa
open Go.RowKit

end Go.Proofs.Ytlaeomnacgjcgaa

namespace Go.Proofs.Ytlaeomnacgjcgaa
open Go.RowKit

theorem tssz_appD : ∀ (a b : List TK), tssz (a ++ b) = tssz a + tssz b
  | [], b => by simp [tssz]
  | x :: a, b => by simp [tssz, tssz_appD a b]; omega

theorem tssz_bytesD : ∀ (l : List Int), tssz (bytesT l) = 0
  | [] => rfl
  | x :: l => by
    have := tssz_bytesD l
    unfold bytesT at this ⊢
    rw [List.map_cons]
    simp only [tssz, this]
    rfl

theorem asz_endD : ∀ (l : List AT) (a : AT), asz (l ++ [a]) = asz l + (a.nm.size + a.vl.length)
  | [], a => by simp [asz]
  | b :: l, a => by simp [asz, asz_endD l a]; omega

theorem attr_fitsD {L : List UInt8} {a : AT} {n : Nat} (h : attrA L = some (a, n)) : a.nm.size + a.vl.length + 1 ≤ n ∧ n ≤ L.length := by
  unfold attrA at h
  split at h
  · split at h
    · rename_i h1 h2
      injection h with h
      injection h with ha hn
      have e1 : a.nm.size = (L.take (spn pL L)).length := by rw [← ha]; simp [ByteArray.size]
      have e2 : a.vl.length ≤ ((L.drop (spn pL L + 2)).take (spn pQ (L.drop (spn pL L + 2)))).length := by rw [← ha]; exact Nat.le_trans (dec_len _ _) (Nat.le_refl _)
      rw [List.length_take] at e1 e2
      omega
    · cases h
  · cases h

theorem inside_fitsD : ∀ (f : Nat) (L : List UInt8) (acc l : List AT) (sh : Bool), insideA f L acc = some (l, sh) → l.length + asz l ≤ acc.length + asz acc + L.length
  | 0, L, acc, l, sh, h => by simp [insideA] at h
  | f + 1, L, acc, l, sh, h => by
    unfold insideA at h
    split at h
    · split at h
      · cases h; omega
      · cases h
    · split at h
      · split at h
        · cases h; omega
        · cases h
      · split at h
        · cases h
        · split at h
          · cases h
          · rename_i a n ha
            have h1 := attr_fitsD ha
            have h2 := inside_fitsD f _ _ l sh h
            rw [List.length_drop] at h1 h2
            have h3 : (addA acc a).length + asz (addA acc a) ≤ acc.length + asz acc + (a.nm.size + a.vl.length + 1) := by
              unfold addA
              split
              · omega
              · rw [asz_endD]; simp; omega
            omega

theorem tag_fitsD {L : List UInt8} {t : TK} (h : tagA L = some t) : tsz t ≤ L.length := by
  unfold tagA at h
  split at h
  · split at h
    · split at h
      · cases h; simp [tsz, asz, ByteArray.size]
      · cases h
    · split at h
      · split at h
        · cases h; simp [tsz, asz, ByteArray.size]; omega
        · cases h
      · split at h
        · split at h
          · cases h
          · rename_i l sh hi
            cases h
            have := inside_fitsD _ _ _ l sh hi
            rw [List.length_drop] at this
            simp only [tsz, asz, ByteArray.size, List.size_toArray, List.length_take, List.length_drop, List.length_nil] at this ⊢
            omega
        · cases h
  · cases h

def weiD (ts : List TK) : Nat := ts.length + tssz ts
theorem wei_appD (a b : List TK) : weiD (a ++ b) = weiD a + weiD b := by unfold weiD; rw [List.length_append, tssz_appD]; omega
theorem wei_bytesD (l : List Int) : weiD (bytesT l) = l.length := by unfold weiD; rw [bytesT_len, tssz_bytesD]; rfl

theorem len_fitsD (hs : List Int) (b : Nat) : weiD (lenX hs b).1 + 2 * (lenX hs b).2.length ≤ 2 * hs.length + 2 := by
  unfold lenX
  split
  · show weiD (bytesT _) + 2 * 0 ≤ _
    rw [wei_bytesD]; simp; omega
  · show 0 + 2 * (hs ++ [(b : Int)]).length ≤ _
    simp; omega

theorem strU_lenD (l : List Int) : (strU l).length = l.length := by unfold strU; rw [len_list, strI_size]

theorem feed_fitsD (hs : List Int) (b : Nat) : weiD (feedX hs b).1 + 2 * (feedX hs b).2.length ≤ 2 * hs.length + 2 := by
  unfold feedX
  split
  · show weiD (bytesT (noneT (b : Int))) + 2 * (noneH (b : Int)).length ≤ _
    rw [wei_bytesD]
    unfold noneT noneH
    split <;> simp <;> omega
  · split
    · show weiD (bytesT (refT hs b)) + 2 * (refH hs b).length ≤ _
      rw [wei_bytesD]
      unfold refT refH
      split
      · split
        · simp
        · simp; omega
      · split
        · split
          · simp; omega
          · simp; omega
        · unfold noneT noneH
          rw [List.length_append]
          split <;> simp <;> omega
    · unfold tagX
      split
      · split
        · rename_i t ht
          have := tag_fitsD ht
          rw [strU_lenD] at this
          show ([t].length + (tsz t + 0)) + 2 * 0 ≤ _
          simp at this ⊢
          omega
        · split
          · show weiD (bytesT _) + 2 * 0 ≤ _
            rw [wei_bytesD]; simp; omega
          · exact len_fitsD hs b
      · split
        · show weiD (bytesT hs) + 2 * 1 ≤ _
          rw [wei_bytesD]; omega
        · exact len_fitsD hs b

theorem all_fitsD : ∀ (l : List Int) (ts : List TK) (hs : List Int), weiD (allX ts hs l).1 + 2 * (allX ts hs l).2.length ≤ weiD ts + 2 * hs.length + 2 * l.length
  | [], ts, hs => by show weiD ts + 2 * hs.length ≤ _; simp
  | x :: l, ts, hs => by
    have ih := all_fitsD l (ts ++ (feedX hs x.toNat).1) (feedX hs x.toNat).2
    have := feed_fitsD hs x.toNat
    rw [wei_appD] at ih
    show weiD (allX (ts ++ (feedX hs x.toNat).1) (feedX hs x.toNat).2 l).1 + 2 * (allX (ts ++ (feedX hs x.toNat).1) (feedX hs x.toNat).2 l).2.length ≤ _
    rw [List.length_cons]
    omega

theorem lex_fitsD (d : List Int) : weiD (lexX d) ≤ 2 * d.length := by
  have := all_fitsD d [] []
  unfold lexX
  rw [wei_appD, wei_bytesD]
  have e : weiD [] = 0 := rfl
  rw [e] at this
  simp at this
  omega

end Go.Proofs.Ytlaeomnacgjcgaa
