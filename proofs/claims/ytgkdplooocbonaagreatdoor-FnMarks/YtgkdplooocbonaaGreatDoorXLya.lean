/- FnMarks: the mathematics, and the text that is drawn. -/
import Derived.Test.YtgkdplooocbonaaGreatDoorXYz
import Derived.Test.YtgkdplooocbonaaGreatDoorXK2
import Derived.Test.YtgkdplooocbonaaGreatDoorXK4
namespace Go.Proofs.YtgkdplooocbonaaGreatDoor
open Go.RowKit
set_option linter.unusedVariables false
set_option linter.unusedSimpArgs false

/-- What is left of a text without what begins a mark. -/
def plainL (d : List Int) : List Int := d.filter (fun x => !(x == 60 || x == 38))

theorem plainL_mem {d : List Int} {x : Int} (h : x ∈ plainL d) : x ∈ d ∧ ¬ (x = 60 ∨ x = 38) := by
  unfold plainL at h
  simp at h
  exact ⟨h.1, by omega⟩

theorem plainL_snoc (d : List Int) (k : Nat) (hk : k < d.length) : plainL (d.take (k + 1)) = if d.getD k 0 = 60 ∨ d.getD k 0 = 38 then plainL (d.take k) else plainL (d.take k) ++ [d.getD k 0] := by
  have e1 : d.take (k + 1) = d.take k ++ [d.getD k 0] := by
    rw [List.take_add_one, List.getElem?_eq_getElem hk]
    simp [hk]
  rw [e1]
  unfold plainL
  rw [List.filter_append]
  by_cases h : d.getD k 0 = 60 ∨ d.getD k 0 = 38
  · rw [if_pos h]
    rw [List.filter_cons_of_neg, List.filter_nil, List.append_nil]
    rcases h with h | h <;> rw [h] <;> decide
  · rw [if_neg h]
    have : ¬ d.getD k 0 = 60 ∧ ¬ d.getD k 0 = 38 := ⟨fun e => h (.inl e), fun e => h (.inr e)⟩
    congr 1
    rw [List.filter_cons_of_pos]
    · rfl
    · simp only [Bool.not_eq_true', Bool.or_eq_false_iff, beq_eq_false_iff_ne]
      exact this

theorem plainL_le (d : List Int) (k : Nat) : (plainL (d.take k)).length ≤ k := by
  unfold plainL
  refine Nat.le_trans (List.length_filter_le _ _) ?_
  rw [List.length_take]
  omega

theorem allX_plain : ∀ (l : List Int) (ts : List TK), (∀ x ∈ l, 0 ≤ x ∧ ¬ (x = 60 ∨ x = 38)) → allX ts [] l = (ts ++ bytesT l, [])
  | [], ts, _ => by simp [allX, bytesT]
  | x :: l, ts, h => by
    obtain ⟨h0, h1⟩ := h x (List.mem_cons_self ..)
    have e : ((x.toNat : Nat) : Int) = x := Int.toNat_of_nonneg h0
    have f : feedX [] x.toNat = ([byteT x], []) := by
      unfold feedX noneT noneH
      rw [if_pos rfl, e, if_neg h1, if_neg h1]
      rfl
    unfold allX
    rw [f]
    show allX (ts ++ [byteT x]) [] l = _
    rw [allX_plain l _ (fun y hy => h y (List.mem_cons_of_mem _ hy))]
    simp [bytesT]

theorem lexX_plain (l : List Int) (h : ∀ x ∈ l, 0 ≤ x ∧ ¬ (x = 60 ∨ x = 38)) : lexX l = bytesT l := by
  unfold lexX
  rw [allX_plain l [] h]
  simp [bytesT]

theorem zerosB (n : Nat) : Byt (List.replicate n (0 : Int)) := fun k hk => by
  rw [List.length_replicate] at hk
  simp [hk]

theorem byt_of_mem {l : List Int} (h : ∀ x ∈ l, 0 ≤ x ∧ x ≤ 255) : Byt l := fun k hk => by
  have := h (l[k]) (List.getElem_mem hk)
  simpa [List.getD_eq_getElem?_getD, hk] using this

theorem byt_plain {d : List Int} (h : Byt d) : Byt (plainL d) := byt_of_mem (fun x hx => h.mem x (plainL_mem hx).1)

theorem own_batP {w : World} {base : Nat} {a : Option Addr} {c : Nat} {l : List Int} (h : w.ownsRow base 5 1 (.slice a l.length c) l.length (bcs l)) : BAt w a l := by
  rcases h.2 with ⟨e, e0⟩ | ⟨g, cap, cur, e, hb, hh, hnc, hcm, hsz, hx⟩
  · exact .inl (List.eq_nil_of_length_eq_zero e0)
  · cases e
    refine .inr ⟨g, 0, rfl, (Array.getElem?_eq_some_iff.1 hh).1, fun k hk => ?_⟩
    have h1 : (cur.toList.take (l.length * 1))[k]? = (bcs l)[k]? := by rw [hx]
    rw [Nat.mul_one, List.getElem?_take_of_lt hk] at h1
    simp only [World.cell?, hh]
    rw [Nat.zero_add, ← Array.getElem?_toList, h1]
    simp [bcs, bv, hk]

theorem rowT_cellM {lo g cap : Nat} {w : World} {ts : List TK} {us : List Value} (hl : us.length = ts.length) (h : w.ownsRow lo 33 5 (.slice (some ⟨g, 0, none⟩) ts.length cap) ts.length (tcs ts us)) {n i : Nat} (hn : n < ts.length) (hi : i < 5) : w.cell? ⟨g, n * 5 + i, none⟩ = ([.int .i64 (tkK ts n).kd, .int .i64 (tkK ts n).by_, .string (tkK ts n).nm, us.getD n undef, .bool (tkK ts n).sh] : List Value)[i]? ∧ w.frozen? ⟨g, n * 5 + i, none⟩ = false := by
  rcases h.2 with ⟨h0, _⟩ | ⟨g', cap', cur, hv, hg, hh, hc, hm, hs', ht⟩
  · cases h0
  · cases hv
    refine ⟨?_, Lib.frozen_of_heap hh _⟩
    rw [Lib.cell_of_heap hh, ← tcs_get ts us n i hl hn hi, ← ht, List.getElem?_take_of_lt (by omega)]
    simp

theorem row_tsAtM {w : World} {lo : Nat} {v : Value} {ts : List TK} {us : List Value} (hl : us.length = ts.length) (h : w.ownsRow lo 33 5 v ts.length (tcs ts us)) (ha : ∀ j, j < ts.length → ∃ p c, us.getD j undef = .slice p (tkK ts j).at_.length c ∧ AAt w p (tkK ts j).at_) : ∃ a c, v = .slice a ts.length c ∧ TsAt w a ts := by
  by_cases h0 : ts = []
  · subst h0
    obtain ⟨a, c, e, _⟩ := own_src h
    exact ⟨a, c, e, .inl rfl⟩
  · have hp : 0 < ts.length := List.length_pos_iff.2 h0
    rcases h.2 with ⟨rfl, h9⟩ | ⟨g, cap, cur, rfl, hg, hh, hc, hm, hs, ht⟩
    · omega
    · have glt : g < w.heap.size := Nat.lt_of_not_le fun hn => by rw [Array.getElem?_eq_none hn] at hh; cases hh
      refine ⟨_, _, rfl, .inr ⟨g, 0, rfl, glt, fun k hk => ?_⟩⟩
      have cc := fun i hi => (rowT_cellM hl h hk (i := i) hi).1
      obtain ⟨p, c, e, haa⟩ := ha k hk
      simp only [Nat.zero_add]
      refine ⟨cc 0 (by omega), cc 1 (by omega), cc 2 (by omega), ⟨p, c, ?_, haa⟩, cc 4 (by omega)⟩
      rw [cc 3 (by omega), ← e]; rfl

theorem TP.tsAtM {lo : Nat} {w : World} {tv : Value} {ts : List TK} {us : List Value} {rs : Nat → List Value} {bl bh : Nat → Nat} (h : TP lo w tv ts us rs bl bh) : ∃ a c, tv = .slice a ts.length c ∧ TsAt w a ts :=
  row_tsAtM h.ta.len h.row (fun j hj => (h.ta.att j hj).at)

theorem step_append_atW {P : Program} {ops : Array Oper} {o : Oper} {a : Act} {w : World} {K : Act → World → Prop} {Q : Exit → Act → World → Prop} {E : Prop} (hw : Region.wanted o (yielded ops a.tmps) = true) (s x : Operand) (t : TypeId)
    (ho : o.op = .call { callee := .builtin .append, args := #[s, x], argTypes := #[t, t] })
    (base : Nat) (e : TypeId) (z : Value) (size bytes : Nat) (ht : P.underlying t = some (.slice e)) (hinfo : (P.info? e).map (fun i => (i.zero, i.size, i.bytes)) = some (some z, size, bytes))
    (hzs : z.cells.size = size) (hsz : 0 < size)
    (v : Value) (n : Nat) (xs : List Value) (hs : a.eval s = v) (hown : w.ownsRow base e size v n xs)
    (ax : Option Addr) (m c : Nat) (news : List Value) (hx : a.eval x = .slice ax m c) (hl : news.length = m * size)
    (hsrc : m = 0 ∨ ∃ ad, ax = some ad ∧ ∀ j u, news[j]? = some u → w.cell? (ad.add j) = some u) (h1 : ∀ u ∈ news, u.oneCell' = true)
    (h63 : n + m ≤ maxLen) (hbytes : (n + m) * bytes ≤ 140737488355328) (hbase : base ≤ w.heap.size)
    (h : ∀ v' w', w'.ownsRow base e size v' (n + m) (xs ++ news) → w.grownBy w' v.ownBlock → (v'.ownBlock = v.ownBlock ∨ v'.ownBlock = some w.heap.size) → K (a.put o.dst v') w') :
    if Region.wanted o (yielded ops a.tmps) = true then Oper.wp P o a w K Q else E := by
  rw [if_pos hw]
  obtain ⟨i, hi, hz0, hz1, hz2⟩ := info_parts hinfo
  cases ax with
  | some ad =>
    have hnews : ∀ j u, news[j]? = some u → w.cell? (ad.add j) = some u := by
      rcases hsrc with h0 | ⟨ad', e', hc⟩
      · subst h0
        have : news = [] := List.eq_nil_of_length_eq_zero (by simpa using hl)
        subst this
        intro j u hj
        simp at hj
      · cases e'
        exact hc
    obtain ⟨v', w', hr, h2, h3, _, h5⟩ := run_append_own_at (P := P) w base t o.type e i z size bytes ht hi hz0 hz1 hz2 hzs hsz v n xs hown ad m c news hl hnews h1 h63 hbytes hbase
    unfold Oper.wp execOp
    simp only [ho, resolve, invoke, builtin, Sem.run_bind, Sem.run_pure, Result.andThen_ok, List.map_toArray, List.map_cons, List.map_nil, hs, hx, hr]
    exact h v' w' h2 h3 h5
  | none =>
    have hm : m = 0 := by
      rcases hsrc with h0 | ⟨ad', e', _⟩
      · exact h0
      · cases e'
    subst hm
    have hn : news = [] := List.eq_nil_of_length_eq_zero (by simpa using hl)
    subst hn
    have hr : (Builtin.append_ #[t, t] o.type #[v, .slice none 0 c]).run P w = .ok v w := by
      rcases hown.2 with ⟨rfl, rfl⟩ | ⟨g, cap, cur, rfl, _, _, hnc, _⟩
      · simp [Builtin.append_, run_underlying ht, sizeOf, typeInfo, hi, Builtin.lenOf, Builtin.firstCells]
      · simp [Builtin.append_, run_underlying ht, sizeOf, typeInfo, hi, Builtin.lenOf, Builtin.firstCells, hnc, storeCells]
    unfold Oper.wp execOp
    simp only [ho, resolve, invoke, builtin, Sem.run_bind, Sem.run_pure, Result.andThen_ok, List.map_toArray, List.map_cons, List.map_nil, hs, hx, hr]
    exact h v w (by simpa using hown) ⟨rfl, rfl, rfl, Nat.le_refl _, fun _ _ _ => rfl⟩ (.inl rfl)


set_option maxHeartbeats 1000000 in
theorem drawLexText_any (a : Option Addr) (c : Nat) (l : List Int) (w : World) (ha : BAt w a l) (hu : ∀ i, i < l.length → 0 ≤ l.getD i 0 ∧ l.getD i 0 ≤ 255) (hl : (l.length : Int) ≤ 1048576) :
    Calls Tryz.prog 5 #[.slice a l.length c] w fun e w' => ∃ (D : List Int) (a' : Option Addr) (c' : Nat), e = .returned (.slice a' D.length c') ∧ BAt w' a' D ∧ D.length ≤ 241 ∧ Byt D ∧ Below w.heap.size w w' := by
  have K := Hid.mk' (l1Source_any a c l w ha hu)
  clear ha hu
  go_enter Tryz.func5, Tryz.ntmps5
  go_wp2_with fail
  refine K.out.mono ?_
  rintro e w1 ⟨rfl, hS, hb⟩
  have HB := Hid.mk' hb
  have HS := Hid.mk' hS
  clear K hS hb
  go_wp2_with fail
  refine (l1Chance_any w.heap.size 0 l 30 w1 HS.out (by decide) (by decide) (by decide) hl).mono ?_
  rintro e w2 ⟨v, rfl, hS2, hK2⟩
  have HB2 := Hid.mk' (hK2.below' w (Nat.le_refl _) HB.out)
  have HS2 := Hid.mk' hS2
  have y2 := HB2.out.size
  have hlt2 := hS2.lt
  clear HB HS hS2 hK2
  cases v with
  | true =>
    go_wp2_with fail
    refine (l1Pick_any w.heap.size 1 w2.heap.size 2 l [240, 241] _ (HS2.out.below (below_new w2 _)) (iat_lit w2 [240, 241]) (by omega) (by decide) (by decide) (by decide) hl).mono ?_
    rintro e w3 ⟨i, hi, rfl, _, hK3⟩
    have HB3 := Hid.mk' (hK3.below' w (Nat.le_refl _) (HB2.out.alloc y2 _))
    obtain ⟨x, hx, xl⟩ : ∃ x : Nat, ([240, 241] : List Int).getD i 0 = (x : Int) ∧ x ≤ 241 := by
      have hi' : i = 0 ∨ i = 1 := by simp at hi; omega
      rcases hi' with rfl | rfl
      · exact ⟨240, rfl, by decide⟩
      · exact ⟨241, rfl, by decide⟩
    rw [hx]
    have hmk := run_make_row' (P := Tryz.prog) 22 5 (.int .u8 0) 1 Tryz.underlying22 Tryz.info5 rfl .i64 .i64 x (by omega) (by omega)
    have Z := Hid.mk' (zeros w3 x)
    have HB4 := Hid.mk' (HB3.out.alloc HB3.out.size (.cells (madeCells #[.int .u8 0] x) 5))
    clear HB2 HS2 hK3 hx hi HB3
    go_wp2
    go_ret
    exact ⟨List.replicate x 0, some ⟨w3.heap.size, 0, none⟩, x, by rw [List.length_replicate]; rfl, Z.out, by rw [List.length_replicate]; omega, zerosB x, HB4.out⟩
  | false =>
    go_wp2_with fail
    refine (l1Marked_any w.heap.size 1 10 l w2 HS2.out (by decide) (by decide) (by decide) hl).mono ?_
    rintro e w3 ⟨v, out, k3, rfl, ol, _, hD⟩
    obtain ⟨p, q, rfl⟩ := own_form hD.own
    have HB3 := Hid.mk' (hD.kept.below' w (Nat.le_refl _) HB2.out)
    have O3 := Hid.mk' (own_batP hD.own)
    have U3 := Hid.mk' hD.u8
    clear HB2 HS2 hD
    go_wp2
    go_ret
    exact ⟨out, p, q, rfl, O3.out, by omega, byt_of_mem U3.out, HB3.out⟩

theorem aeq_refl (x : AT) : aeq x x = true := by unfold aeq; simp
theorem sameAs_refl (l : List AT) : sameAs l l = true := by unfold sameAs; rw [decide_eq_true rfl, allK_true (fun k _ => aeq_refl _)]; rfl
theorem teq_refl (x : TK) : teq x x = true := by unfold teq; rw [sameAs_refl]; simp
theorem sameTs_refl (l : List TK) : sameTs l l = true := by unfold sameTs; rw [decide_eq_true rfl, allK_true (fun k _ => teq_refl _)]; rfl

theorem lwBigF_any (a : Option Addr) (c n : Nat) (w : World) :
    Calls Tryz.prog 4 #[.slice a n c] w fun e w' => e = .returned (.bool (decide ((1048576 : Int) < (n : Int)))) ∧ w' = w := by
  go_enter Tryz.func4, Tryz.ntmps4
  go_wp2
  go_ret
  exact ⟨rfl, rfl⟩

end Go.Proofs.YtgkdplooocbonaaGreatDoor
