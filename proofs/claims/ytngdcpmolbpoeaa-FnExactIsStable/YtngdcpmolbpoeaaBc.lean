/- Rooms: a map of places; the program's side of IsStable, and the law. -/
import Derived.Test.YtngdcpmolbpoeaaBb
import Derived.Maps.OwnSet
import Derived.Maps.OwnOps
namespace Go.Proofs.Ytngdcpmolbpoeaa
open Go.RowKit Go.Maps
set_option linter.unusedVariables false
set_option linter.unusedSimpArgs false

theorem cell_at {w : World} {a : Addr} {v : Value} (h : w.cell? a = some v) : a.block < w.heap.size := by
  refine Nat.lt_of_not_le fun hn => ?_
  have : w.heap[a.block]? = none := Array.getElem?_eq_none hn
  simp [World.cell?, this] at h

/-- A way ends in the way to what it passes. -/
theorem way_pre {u : Nat → Int} {n : Nat} (h : ∀ j, j < n → depU u j < (wayU u j).length) : ∀ k, k ≤ n → ∀ (i j : Nat), i < (wayU u k).length → wv (wayU u k) i = (j : Int) → i = depU u j + 1 ∧ ∀ i', i' ≤ i → wv (wayU u k) i' = wv (wayU u (j + 1)) i'
  | 0, _, i, j, hi, hj => by
    have : i = 0 := by simp [wayU] at hi; omega
    subst this
    simp [wayU, wv] at hj
  | k + 1, hk, i, j, hi, hj => by
    obtain ⟨L, lo, en⟩ := way_succ u k (h k (by omega))
    by_cases c : i = depU u k + 1
    · subst c
      rw [en] at hj
      have : k = j := by omega
      subst this
      exact ⟨rfl, fun _ _ => rfl⟩
    · have hd := h k (by omega)
      rw [lo i (by omega)] at hj
      obtain ⟨a1, a2⟩ := way_pre h k (by omega) i j (by omega) hj
      exact ⟨a1, fun i' hi' => by rw [lo i' (by omega)]; exact a2 i' hi'⟩

theorem inPW_congr {l : List ND} {W W' : List Int} : ∀ d, (∀ i, i ≤ d → wv W i = wv W' i) → inPW l W d = inPW l W' d
  | 0, h => by unfold inPW; rw [h 0 (Nat.le_refl _)]
  | d + 1, h => by unfold inPW; rw [h (d + 1) (Nat.le_refl _), inPW_congr d (fun i hi => h i (by omega))]

theorem up_in {l : List ND} {n k j : Nat} (h : Ways l n) (hk : k < n) (hj : (ndK l k).up = (j : Int)) : depU (upF l) k = depU (upF l) j + 1 ∧ pU l k = (((ndK l j).tg.toList == [112]) || pU l j) := by
  have hd := h k hk
  have hat : wv (wayU (upF l) k) (depU (upF l) k) = (j : Int) := (ixF_at hd).trans hj
  obtain ⟨a1, a2⟩ := way_pre h k (by omega) _ j hd hat
  have hi := (h.mono (Nat.le_of_lt hk)).good.hi hd
  rw [hat] at hi
  obtain ⟨L, lo, en⟩ := way_succ (upF l) j (h j (by omega))
  refine ⟨a1, ?_⟩
  unfold pU
  rw [inPW_congr _ a2, a1]
  show (isPa l (wv (wayU (upF l) (j + 1)) (depU (upF l) j + 1)) || inPW l (wayU (upF l) (j + 1)) (depU (upF l) j)) = _
  rw [en, isPa_nat, inPW_congr _ (fun i hi' => lo i (by omega))]

theorem up_none {l : List ND} {n k : Nat} (h : Ways l n) (hk : k < n) (hj : (ndK l k).up = -1) : depU (upF l) k = 0 ∧ pU l k = false := by
  have hd := h k hk
  have G := (h.mono (Nat.le_of_lt hk)).good
  have hat : wv (wayU (upF l) k) (depU (upF l) k) = -1 := (ixF_at hd).trans hj
  have e : depU (upF l) k = 0 := G.one hd G.ne (by rw [hat, G.hd])
  refine ⟨e, ?_⟩
  unfold pU
  rw [e]
  show isPa l (wv (wayU (upF l) k) 0) = false
  rw [G.hd]; rfl

/-- Where a node of a right tree is put. -/
theorem place_up {l : List ND} {k : Nat} (h : treeF l = 0) (hk : k < l.length) : (ndK l k).up = -1 ∨ ∃ j : Nat, (ndK l k).up = (j : Int) ∧ j < k ∧ ((ndK l j).tg.toList == []) = false := by
  have hW := treeF_ways h
  have h1 := treeF_ones h k hk
  have hd := hW k hk
  have G := (hW.mono (Nat.le_of_lt hk)).good
  have hat : wv (wayU (upF l) k) (depU (upF l) k) = (ndK l k).up := ixF_at hd
  have lo := G.lo hd
  have hi := G.hi hd
  rw [hat] at lo hi
  by_cases c : (ndK l k).up = -1
  · exact .inl c
  · refine .inr ⟨(ndK l k).up.toNat, by omega, by omega, ?_⟩
    have hm : markF (ndK l k) = 0 := by
      by_cases e : markF (ndK l k) = 0
      · exact e
      · rw [oneF_mark rfl e] at h1; exact absurd h1 e
    rw [oneF_place hm] at h1
    unfold placeF at h1
    rw [if_pos hd] at h1
    by_cases hh : 0 ≤ (ndK l k).up ∧ holdB (ndK l (ndK l k).up.toNat) = false
    · rw [if_pos hh] at h1; exact absurd h1 (by decide)
    · have : holdB (ndK l (ndK l k).up.toNat) = true := by
        cases e : holdB (ndK l (ndK l k).up.toNat)
        · exact absurd ⟨by omega, e⟩ hh
        · rfl
      unfold holdB at this
      rw [Bool.and_eq_true, Bool.not_eq_true'] at this
      exact this.1

/-- What the rooms hold behind k nodes. -/
def rmF (l : List ND) (k : Nat) (x : Int) : Int × Bool :=
  if 0 ≤ x ∧ x < (k : Int) ∧ ((ndK l x.toNat).tg.toList == []) = false then ((depU (upF l) x.toNat : Int) + 1, pU l x.toNat || ((ndK l x.toNat).tg.toList == [112])) else (0, false)

theorem rmF_up {l : List ND} {k : Nat} (h : treeF l = 0) (hk : k < l.length) : rmF l k (ndK l k).up = ((depU (upF l) k : Int), pU l k) := by
  have hW := treeF_ways h
  unfold rmF
  rcases place_up h hk with e | ⟨j, e, hj, ht⟩
  · obtain ⟨a1, a2⟩ := up_none hW hk e
    rw [e, if_neg (by omega), a1, a2]; rfl
  · obtain ⟨a1, a2⟩ := up_in hW hk e
    rw [e, Int.toNat_natCast, if_pos ⟨by omega, by omega, ht⟩, a1, a2, Bool.or_comm]
    congr 1

theorem rmF_text {l : List ND} {k : Nat} (ht : ((ndK l k).tg.toList == []) = true) (x : Int) : rmF l (k + 1) x = rmF l k x := by
  unfold rmF
  by_cases e : x = (k : Int)
  · subst e
    rw [if_neg (fun c => by have := c.2.2; rw [Int.toNat_natCast, ht] at this; cases this), if_neg (by omega)]
  · by_cases c : 0 ≤ x ∧ x < (k : Int) ∧ ((ndK l x.toNat).tg.toList == []) = false
    · rw [if_pos c, if_pos ⟨c.1, by omega, c.2.2⟩]
    · rw [if_neg c, if_neg (fun d => c ⟨d.1, by omega, d.2.2⟩)]

theorem rmF_elem {l : List ND} {k : Nat} (ht : ((ndK l k).tg.toList == []) = false) : rmF l (k + 1) (k : Int) = ((depU (upF l) k : Int) + 1, pU l k || ((ndK l k).tg.toList == [112])) := by
  unfold rmF
  rw [Int.toNat_natCast, if_pos ⟨by omega, by omega, ht⟩]

theorem rmF_other {l : List ND} {k : Nat} {x : Int} (e : ¬ x = (k : Int)) : rmF l (k + 1) x = rmF l k x := by
  unfold rmF
  by_cases c : 0 ≤ x ∧ x < (k : Int) ∧ ((ndK l x.toNat).tg.toList == []) = false
  · rw [if_pos c, if_pos ⟨c.1, by omega, c.2.2⟩]
  · rw [if_neg c, if_neg (fun d => c ⟨d.1, by omega, d.2.2⟩)]

/-- How a room reads. -/
def roomElem (v : Value) : Option (DataW Unit × List MemPlace) :=
  match v with
  | .agg a => (match a.toList with | [.int .i64 d, .bool p] => some (.agg [.lit (.int .i64 d), .lit (.bool p)], []) | _ => none)
  | _ => none

theorem roomElem_mk (d : Int) (p : Bool) : roomElem (.agg #[.int .i64 d, .bool p]) = some (.agg [.lit (.int .i64 d), .lit (.bool p)], []) := rfl

theorem roomElem_inv {v : Value} {d : Int} {p : Bool} {ps : List MemPlace} (h : roomElem v = some (.agg [.lit (.int .i64 d), .lit (.bool p)], ps)) : v = .agg #[.int .i64 d, .bool p] := by
  unfold roomElem at h
  split at h
  · rename_i a
    split at h
    · rename_i d' p' e
      simp only [Option.some.injEq, Prod.mk.injEq, DataW.agg.injEq, List.cons.injEq, DataW.lit.injEq, Lit.int.injEq, Lit.bool.injEq, true_and, and_true] at h
      obtain ⟨⟨rfl, rfl⟩, _⟩ := h
      congr 1
      apply Array.ext'
      exact e
    · cases h
  · cases h

theorem keyed2 : Keyed Try.prog 2 := int_keyed Try.underlying2
theorem zeroR (w : World) : (zeroValue 64).run Try.prog w = .ok (.agg #[.int .i64 0, .bool false]) w := by kernel_rfl

/-- A room's datum. -/
def rmD (r : Int × Bool) : DataW Unit := .agg [.lit (.int .i64 r.1), .lit (.bool r.2)]

/-- The map in block g holds the rooms that r tells. -/
def RMap (w : World) (g n : Nat) (r : Int → Int × Bool) : Prop := ∃ D, w.ownsMap Try.prog 2 roomElem g n D ∧ ∀ x : Int, D.atKey (.int .i64 x) (rmD (0, false)) = rmD (r x)

theorem RMap.lt {w : World} {g n : Nat} {r : Int → Int × Bool} (h : RMap w g n r) : g < w.heap.size := by
  obtain ⟨D, h1, _⟩ := h
  exact h1.lt

theorem RMap.block {w w' : World} {g n : Nat} {r : Int → Int × Bool} (h : RMap w g n r) (hb : w'.heap[g]? = w.heap[g]?) : RMap w' g n r := by
  obtain ⟨D, ⟨es, clock, h1, q⟩, h2⟩ := h
  exact ⟨D, ⟨es, clock, hb.trans h1, q⟩, h2⟩

theorem RMap.below {w w' : World} {g n : Nat} {r : Int → Int × Bool} (h : RMap w g n r) (hb : Below w.heap.size w w') : RMap w' g n r := h.block (hb.block g h.lt)

theorem RMap.look {w : World} {g n : Nat} {r : Int → Int × Bool} (h : RMap w g n r) {x : Int} (hx : (Lit.int .i64 x).wf = true) : (Instr.lookup 45 (.map (some g)) (.int .i64 x) false).run Try.prog w = .ok (.agg #[.int .i64 (r x).1, .bool (r x).2]) w := by
  obtain ⟨D, h1, h2⟩ := h
  obtain ⟨v, ps, hr, hv⟩ := h1.lookup keyed2 Try.underlying45 (zeroR w) (roomElem_mk 0 false) (keyOf_int_mk Try.underlying2 hx)
  have := h2 x
  unfold rmD at this
  rw [this] at hv
  rw [hr, roomElem_inv hv]

set_option maxRecDepth 100000 in
set_option maxHeartbeats 400000 in
theorem newRooms_any (w : World) :
    Calls Try.prog 18 #[] w fun e w' => e = .returned (.map (some w.heap.size)) ∧ RMap w' w.heap.size 1 (fun _ => (0, false)) ∧ Below w.heap.size w w' := by
  have hmm := @run_makeMap Try.prog
  have H0 := Hid.mk' (World.ownsMap_made w Try.prog 2 roomElem)
  have B0 := Hid.mk' ((Below.refl w.heap.size w).alloc (Nat.le_refl _) (.map #[] 0))
  have HK := Hid.mk' (keyOf_int_mk (P := Try.prog) Try.underlying2 (a := -1) (by decide))
  obtain ⟨w1, hrun, hown1, hgrow1⟩ := H0.out.update keyed2 Try.underlying45 (by unfold maxLen; omega) HK.out (roomElem_mk 0 false)
  have HO := Hid.mk' hown1
  have HG := Hid.mk' hgrow1
  clear hown1 hgrow1 HK H0
  go_enter Try.func18, Try.ntmps18
  go_wp2
  go_ret
  refine ⟨rfl, ⟨_, HO.out, fun x => ?_⟩, B0.out.grown HG.out B0.out.size (fun j hj => by cases hj; exact Nat.le_refl _)⟩
  by_cases e : x = -1
  · subst e; rw [atKey_put_same isMap_empty (by trivial)]; rfl
  · rw [atKey_put_other (fun h => e (by injection h))]; rfl

theorem wf64 {x : Int} (h1 : -9223372036854775808 ≤ x) (h2 : x ≤ 9223372036854775807) : (Lit.int .i64 x).wf = true := by
  have e1 : IntKind.i64.min = -9223372036854775808 := by decide
  have e2 : IntKind.i64.max = 9223372036854775807 := by decide
  show (decide (IntKind.i64.min ≤ x) && decide (x ≤ IntKind.i64.max)) = true
  rw [e1, e2, decide_eq_true h1, decide_eq_true h2]; rfl

set_option maxHeartbeats 800000 in
theorem mayTake_any (g n : Nat) (r : Int → Int × Bool) (x : Int) (t : ByteArray) (w : World) (h : RMap w g n r) (h1 : -9223372036854775808 ≤ x) (h2 : x ≤ 9223372036854775807) :
    Calls Try.prog 19 #[.map (some g), .int .i64 x, .string t] w fun e w' => e = .returned (.bool (decide ((r x).1 < 7) && (!(t.toList == [112]) || !(r x).2))) ∧ Below w.heap.size w w' := by
  have hl := h.look (wf64 h1 h2)
  clear h
  generalize (r x).1 = d at *
  generalize (r x).2 = p at *
  have HB := Hid.mk' (below_new w (.cells #[.int .i64 d, .bool p] 64))
  by_cases c1 : d < 7
  · cases c2 : (t.toList == [112])
    · go_enter Try.func19, Try.ntmps19
      go_wp2_with go_big_skip
      go_ret
      exact ⟨by simp [c1], HB.out⟩
    · cases p
      all_goals go_enter Try.func19, Try.ntmps19
      all_goals go_wp2_with go_big_skip
      all_goals go_ret
      all_goals exact ⟨by simp [c1], HB.out⟩
  · go_enter Try.func19, Try.ntmps19
    go_wp2_with go_big_skip
    go_ret
    exact ⟨by rw [decide_eq_false (by omega : ¬ d < 7)]; rfl, HB.out⟩

/-- Rooms with one more. -/
def rmPut (r : Int → Int × Bool) (y : Int) (v : Int × Bool) (x : Int) : Int × Bool := if x = y then v else r x

theorem RMap.put {w : World} {g n : Nat} {r : Int → Int × Bool} (h : RMap w g n r) (hn : n < maxLen) {y : Int} (hy : (Lit.int .i64 y).wf = true) (d : Int) (p : Bool) :
    ∃ w', (Instr.mapUpdate 45 (.map (some g)) (.int .i64 y) (.agg #[.int .i64 d, .bool p])).run Try.prog w = .ok () w' ∧ RMap w' g (n + 1) (rmPut r y (d, p)) ∧ w.grownBy w' (some g) := by
  obtain ⟨D, h1, h2⟩ := h
  obtain ⟨w', e1, e2, e3⟩ := h1.update keyed2 Try.underlying45 hn (keyOf_int_mk Try.underlying2 hy) (roomElem_mk d p)
  refine ⟨w', e1, ⟨_, e2, fun x => ?_⟩, e3⟩
  unfold rmPut
  by_cases e : x = y
  · subst e; rw [if_pos rfl, atKey_put_same h1.isMap (by trivial)]; rfl
  · rw [if_neg e, atKey_put_other (fun h => e (by injection h)), h2 x]

theorem grown_behind {w W w' : World} {g : Nat} (hb : Below w.heap.size w W) (hg : W.grownBy w' (some g)) : w.grownBy w' (some g) :=
  ⟨hg.os.trans hb.os, hg.tape.trans hb.tape, hg.output.trans hb.output, Nat.le_trans hb.size hg.size, fun k hk hne => (hg.block k (Nat.lt_of_lt_of_le hk hb.size) hne).trans (hb.block k hk)⟩

set_option maxHeartbeats 800000 in
theorem openR_any (g n : Nat) (r : Int → Int × Bool) (y x : Int) (t : ByteArray) (w : World) (h : RMap w g n r) (hn : n < maxLen) (h1 : -9223372036854775808 ≤ x) (h2 : x ≤ 9223372036854775807) (h3 : -9223372036854775808 ≤ y) (h4 : y ≤ 9223372036854775807) (hd : -1 ≤ (r x).1 ∧ (r x).1 ≤ 100) :
    Calls Try.prog 20 #[.map (some g), .int .i64 y, .int .i64 x, .string t] w fun e w' => e = .returned (.tuple #[]) ∧ RMap w' g (n + 1) (rmPut r y ((r x).1 + 1, (r x).2 || (t.toList == [112]))) ∧ w.grownBy w' (some g) := by
  have hl := h.look (wf64 h1 h2)
  have N0 := below_new w (.cells #[.int .i64 (r x).1, .bool (r x).2] 64)
  obtain ⟨w', hrun, hR, hG⟩ := (h.below N0).put hn (wf64 h3 h4) ((r x).1 + 1) ((r x).2 || (t.toList == [112]))
  have HR := Hid.mk' hR
  have HG := Hid.mk' (grown_behind N0 hG)
  clear hR hG N0 h
  generalize (r x).1 = d at *
  generalize (r x).2 = p at *
  have ew : IntKind.i64.wrap (d + 1) = d + 1 := by rw [IntKind.wrap_i64]; omega
  cases p
  · cases c2 : (t.toList == [112])
    all_goals rw [c2] at hrun
    all_goals simp only [Bool.or_false, Bool.or_true, Bool.false_or, Bool.true_or] at hrun
    all_goals go_enter Try.func20, Try.ntmps20
    all_goals go_wp2_with go_big_skip
    all_goals go_end0
    all_goals exact ⟨rfl, by rw [c2] at HR; exact HR.out, HG.out⟩
  · simp only [Bool.true_or] at hrun
    go_enter Try.func20, Try.ntmps20
    go_wp2_with go_big_skip
    go_end0
    exact ⟨rfl, by rw [Bool.true_or]; rw [Bool.true_or] at HR; exact HR.out, HG.out⟩

theorem rmPut_is {l : List ND} {k : Nat} {r : Int → Int × Bool} (hr : ∀ x, r x = rmF l k x) (ht : ((ndK l k).tg.toList == []) = false) (x : Int) : rmPut r (k : Int) ((depU (upF l) k : Int) + 1, pU l k || ((ndK l k).tg.toList == [112])) x = rmF l (k + 1) x := by
  unfold rmPut
  by_cases e : x = (k : Int)
  · subst e; rw [if_pos rfl, rmF_elem ht]
  · rw [if_neg e, hr, rmF_other e]

theorem RMap.congr {w : World} {g n : Nat} {r r' : Int → Int × Bool} (h : RMap w g n r) (hr : ∀ x, r x = r' x) : RMap w g n r' := by
  obtain ⟨D, h1, h2⟩ := h
  exact ⟨D, h1, fun x => by rw [h2 x, hr x]⟩

theorem rmF_zero (l : List ND) (x : Int) : ((0, false) : Int × Bool) = rmF l 0 x := by unfold rmF; rw [if_neg (by omega)]

set_option maxRecDepth 100000 in
set_option maxHeartbeats 3200000 in
theorem implStable_any (a : Option Addr) (c : Nat) (l : List ND) (w : World) (ha : NsAt w a l) (hl : (l.length : Int) + nssz l ≤ 1048576) :
    Calls Try.prog 8 #[.slice a l.length c] w fun e w' => e = .returned (.bool (stB l)) ∧ Below w.heap.size w w' := by
  have KF := implTree_any a c l w ha hl
  have HA := Hid.mk' ha
  clear ha
  unfold stB
  by_cases h0 : treeF l = 0
  rotate_left
  · rw [decide_eq_false h0, Bool.false_and]
    have h1 : (treeF l == 0) = false := by rw [beq_eq_false_iff_ne]; exact h0
    have KF := Hid.mk' KF
    generalize treeF l = T at *
    go_enter Try.func8, Try.ntmps8
    go_wp2_with fail
    refine KF.out.mono ?_
    rintro e w1 ⟨rfl, hb⟩
    have HB := Hid.mk' hb
    clear hb
    go_wp2
    go_ret
    exact ⟨rfl, HB.out⟩
  rw [h0] at KF
  rw [decide_eq_true h0, Bool.true_and]
  have KF := Hid.mk' KF
  have H0 := Hid.mk' h0
  have h60 := treeF_len h0
  clear h0
  go_enter Try.func8, Try.ntmps8
  go_wp2_with fail
  refine KF.out.mono ?_
  rintro e w1 ⟨rfl, hb⟩
  have HB := Hid.mk' hb
  clear hb KF
  go_wp2_with fail
  refine (newRooms_any w1).mono ?_
  rintro e w2 ⟨rfl, hR, hb⟩
  have HR := Hid.mk' hR
  have HB2 := Hid.mk' hb
  clear hR hb
  obtain ⟨g, hg⟩ : ∃ g, w1.heap.size = g := ⟨_, rfl⟩
  have SG : Hid (w.heap.size ≤ g) := Hid.mk' (by have := HB.out.size; omega)
  have HA1 : Hid (∀ W : World, Below g w1 W → NsAt W a l) := Hid.mk' (fun W h => by subst hg; exact (HA.out.below HB.out).below h)
  rw [hg] at HR HB2 ⊢
  have HBW : Hid (∀ W : World, Below g w1 W → Below w.heap.size w W) := Hid.mk' (fun W h => by subst hg; exact HB.out.trans (h.mono HB.out.size))
  clear HB hg
  go_wp2_with fail
  go_loopw [12] (fun i wr => ∃ k : Nat, k ≤ l.length ∧ i = .int .i64 k ∧ okU l k = true ∧ (∃ n, n ≤ k + 1 ∧ RMap wr g n (rmF l k)) ∧ Below g w1 wr) (fun i _ => l.length - (intOf i).toNat)
  case atStart => exact ⟨0, Nat.zero_le _, rfl, rfl, ⟨1, Nat.le_refl _, HR.out.congr (rmF_zero l)⟩, HB2.out⟩
  case round =>
    obtain ⟨k, hk, rfl, hok, ⟨n, hn, hM⟩, hbl⟩ := hrel
    have HO := Hid.mk' hok
    have HM := Hid.mk' hM
    have HBL := Hid.mk' hbl
    have HN := Hid.mk' hn
    clear hok hM
    by_cases hlt : k < l.length
    · have ci : (k : Int) < (l.length : Int) := by omega
      have HBd : Hid (badB l k = true → okU l l.length = false) := Hid.mk' (okU_le l.length hlt)
      have HNx : Hid (badB l k = false → okU l (k + 1) = true) := Hid.mk' (fun h => by show (okU l k && !badB l k) = true; rw [HO.out, h]; rfl)
      have hbd : badB l k = (!((ndK l k).tg.toList == []) && (((ndK l k).tg.toList == [112]) && pU l k || decide (7 ≤ depU (upF l) k))) := rfl
      have hru := rmF_up H0.out hlt
      have hup : -1 ≤ (ndK l k).up ∧ (ndK l k).up < (k : Int) := by
        rcases place_up H0.out hlt with e | ⟨j, e, hj, _⟩ <;> omega
      have hdep : depU (upF l) k ≤ k := by
        have h1 := treeF_ways H0.out k hlt
        have h2 := ((treeF_ways H0.out).mono (Nat.le_of_lt hlt)).good.le
        omega
      rcases HA1.out wr hbl with ha | ⟨b, o, rfl, hbs, hc⟩
      · exact absurd hlt (by rw [ha]; exact Nat.not_lt_zero _)
      obtain ⟨q0, q1, ⟨p2', d2, q2, _, _⟩, ⟨p, d, q3, q4⟩⟩ := hc k hlt
      have V1 := below_new wr (.cells #[.int .i64 (ndK l k).up, .string (ndK l k).tg, .slice p2' (ndK l k).at_.length d2, .slice p (ndK l k).tx.length d] 42)
      have RN := Hid.mk' (row4 wr 42 (.int .i64 (ndK l k).up) (.string (ndK l k).tg) (.slice p2' (ndK l k).at_.length d2) (.slice p (ndK l k).tx.length d))
      have SZ : g ≤ wr.heap.size := Nat.le_of_lt HM.out.lt
      have HBL := Hid.mk' (HBL.out.trans (V1.mono SZ))
      have HM := Hid.mk' (HM.out.below V1)
      have SZ2 := Hid.mk' V1.size
      have GL := Hid.mk' HM.out.lt
      clear V1 hc hbl q4 SZ
      generalize hWn : wr.alloc (.cells #[.int .i64 (ndK l k).up, .string (ndK l k).tg, .slice p2' (ndK l k).at_.length d2, .slice p (ndK l k).tx.length d] 42) = Wn at *
      obtain ⟨r0, r1, r2, r3_, r4_⟩ := cells4 RN.out
      cases t1 : ((ndK l k).tg.toList == [])
      rotate_left
      · rw [t1] at hbd
        have E := Hid.mk' (HNx.out (by rw [hbd]; rfl))
        have ET := Hid.mk' t1
        clear hbd
        go_wp2
        clear hWn
        go_roundw
        case rel => exact ⟨k + 1, by omega, by go_num, E.out, ⟨n, by have := HN.out; omega, HM.out.congr (fun x => (rmF_text ET.out x).symm)⟩, HBL.out⟩
        case measure => simp [intOf]; omega
      rw [t1] at hbd
      have KM := mayTake_any g n (rmF l k) (ndK l k).up (ndK l k).tg Wn HM.out (by omega) (by omega)
      rw [hru] at KM
      cases hb : badB l k
      · have E := Hid.mk' (HNx.out hb)
        have hm : (decide ((depU (upF l) k : Int) < 7) && (!((ndK l k).tg.toList == [112]) || !pU l k)) = true := by
          rw [hbd] at hb
          by_cases t4 : 7 ≤ depU (upF l) k
          · rw [decide_eq_true t4] at hb; simp at hb
          · rw [decide_eq_false t4] at hb
            rw [decide_eq_true (by omega : (depU (upF l) k : Int) < 7)]
            revert hb
            cases ((ndK l k).tg.toList == [112]) <;> cases pU l k <;> simp
        rw [hm] at KM
        have KM := Hid.mk' KM
        have KO : Hid (∀ W : World, Below Wn.heap.size Wn W → Calls Try.prog 20 #[.map (some g), .int .i64 (k : Int), .int .i64 (ndK l k).up, .string (ndK l k).tg] W fun e w' => e = .returned (.tuple #[]) ∧ RMap w' g (n + 1) (rmF l (k + 1)) ∧ W.grownBy w' (some g)) := Hid.mk' (fun W hW => by
          have := openR_any g n (rmF l k) (k : Int) (ndK l k).up (ndK l k).tg W (HM.out.below hW) (by unfold maxLen; have := HN.out; omega) (by omega) (by omega) (by omega) (by omega) (by rw [hru]; show -1 ≤ (depU (upF l) k : Int) ∧ (depU (upF l) k : Int) ≤ 100; omega)
          refine this.mono fun e w' ⟨e1, e2, e3⟩ => ⟨e1, ?_, e3⟩
          rw [hru] at e2
          exact e2.congr (rmPut_is (fun _ => rfl) t1))
        clear hm hb hbd hru
        go_wp2_with fail
        clear hWn
        refine KM.out.mono ?_
        rintro e w3 ⟨rfl, hb3⟩
        have HB3 := Hid.mk' hb3
        have r0' := (hb3.cell (cell_at r0)).trans r0
        have r1' := (hb3.cell (cell_at r1)).trans r1
        clear hb3 KM r0 r1
        go_wp2_with fail
        refine (KO.out _ HB3.out).mono ?_
        rintro e w4 ⟨rfl, hM4, hG4⟩
        have HM4 := Hid.mk' hM4
        have HB4 := Hid.mk' ((HBL.out.trans (HB3.out.mono (Nat.le_of_lt GL.out))).grown hG4 (Nat.le_trans (Nat.le_of_lt GL.out) HB3.out.size) (fun j hj => by cases hj; exact Nat.le_refl _))
        clear hM4 hG4
        go_wp2
        go_roundw
        case rel => exact ⟨k + 1, by omega, by go_num, E.out, ⟨n + 1, by have := HN.out; omega, HM4.out⟩, HB4.out⟩
        case measure => simp [intOf]; omega
      · have E := Hid.mk' (HBd.out hb)
        have hm : (decide ((depU (upF l) k : Int) < 7) && (!((ndK l k).tg.toList == [112]) || !pU l k)) = false := by
          rw [hbd] at hb
          by_cases t4 : 7 ≤ depU (upF l) k
          · rw [decide_eq_false (by omega : ¬ (depU (upF l) k : Int) < 7)]; rfl
          · rw [decide_eq_false t4] at hb
            revert hb
            cases ((ndK l k).tg.toList == [112]) <;> cases pU l k <;> simp
        rw [hm] at KM
        have KM := Hid.mk' KM
        clear hm hb hbd hru
        go_wp2_with fail
        clear hWn
        refine KM.out.mono ?_
        rintro e w3 ⟨rfl, hb3⟩
        have HB3 := Hid.mk' (HBL.out.trans (hb3.mono (Nat.le_of_lt GL.out)))
        clear hb3 KM
        go_wp2
        go_ret
        exact ⟨by rw [E.out]; rfl, HBW.out _ HB3.out⟩
    · have ci : ¬ (k : Int) < (l.length : Int) := by omega
      have e : k = l.length := by omega
      subst e
      clear hbl
      go_wp2
      go_ret
      exact ⟨by rw [HO.out]; rfl, HBW.out _ HBL.out⟩

end Go.Proofs.Ytngdcpmolbpoeaa
