/- The program's side of a tree's fault: the mark of a node. -/
import Derived.Test.YtpcpnfpnkkjkcaaGreatU3
import Derived.Test.YtpcpnfpnkkjkcaaGreatU2
import Derived.Maps.AppendAt
namespace Go.Proofs.YtpcpnfpnkkjkcaaGreat
open Go.RowKit
set_option linter.unusedVariables false
set_option linter.unusedSimpArgs false

/-- A mark: its kind, its tag, its attributes. -/
def mkK (t : ND) : Int := if kindB t = true then (if (t.tg.toList == []) = true then 2 else 1) else 0
def mkS (t : ND) : ByteArray := if mkK t = 1 then t.tg else ⟨#[]⟩
def mkV (t : ND) (v : Value) : Value := if mkK t = 1 then v else .slice none 0 0

theorem mkK_cases (t : ND) : (kindB t = false ∧ mkK t = 0) ∨ (kindB t = true ∧ (t.tg.toList == []) = true ∧ mkK t = 2) ∨ (kindB t = true ∧ (t.tg.toList == []) = false ∧ mkK t = 1) := by
  unfold mkK
  cases h1 : kindB t
  · simp
  · cases h2 : (t.tg.toList == []) <;> simp

set_option maxHeartbeats 3200000 in
theorem markOf_any (t : ND) (a p : Option Addr) (c d : Nat) (w : World) :
    Calls Tryz.prog 92 #[.agg #[.int .i64 t.up, .string t.tg, .slice a t.at_.length c, .slice p t.tx.length d]] w fun e w' => e = .returned (.agg #[.int .i64 (mkK t), .string (mkS t), mkV t (.slice a t.at_.length c)]) ∧ Below w.heap.size w w' := by
  obtain ⟨n, hn⟩ : ∃ n, t.at_.length = n := ⟨_, rfl⟩
  obtain ⟨m, hm⟩ : ∃ m, t.tx.length = m := ⟨_, rfl⟩
  have E : kindB t = if (t.tg.toList == []) = true then decide (n = 0) && decide (1 ≤ (m : Int)) && decide ((m : Int) ≤ 240) else decide (m = 0) := by
    unfold kindB
    rw [hm, hn]
  have EE := Hid.mk' E
  rw [hn, hm]
  clear E hn hm
  have z : ∀ k, mkK t = k → ¬ k = 1 → Value.agg #[.int .i64 (mkK t), .string (mkS t), mkV t (.slice a n c)] = .agg #[.int .i64 k, .string ⟨#[]⟩, .slice none 0 0] := fun k h h1 => by unfold mkS mkV; rw [h, if_neg h1, if_neg h1]
  cases e1 : (t.tg.toList == [])
  · by_cases e2 : (m : Int) = 0
    · have E : Hid (Value.agg #[.int .i64 (mkK t), .string (mkS t), mkV t (.slice a n c)] = .agg #[.int .i64 1, .string t.tg, .slice a n c]) := Hid.mk' (by
        have h : mkK t = 1 := by unfold mkK; rw [EE.out, e1, decide_eq_true (show m = 0 by omega)]; rfl
        unfold mkS mkV; rw [h, if_pos rfl, if_pos rfl])
      go_enter Tryz.func92, Tryz.ntmps92
      go_wp2_with go_big_skip
      refine bodyPost_ret (v := .agg #[.int .i64 1, .string t.tg, .slice a n c]) (by simp [results, Tryz.results92, go_sem, *]) rfl ?_
      exact ⟨by rw [E.out], ((below_new _ _).alloc (by simp) _)⟩
    · have E := Hid.mk' (z 0 (by unfold mkK; rw [EE.out, e1, decide_eq_false (show ¬ m = 0 by omega)]; rfl) (by omega))
      clear z
      go_enter Tryz.func92, Tryz.ntmps92
      go_wp2_with go_big_skip
      refine bodyPost_ret (v := .agg #[.int .i64 0, .string ⟨#[]⟩, .slice none 0 0]) (by simp [results, Tryz.results92, go_sem, *]) rfl ?_
      exact ⟨by rw [E.out], ((below_new _ _).alloc (by simp) _)⟩
  · by_cases e2 : (n : Int) = 0
    · by_cases e3 : (m : Int) ≥ 1
      · by_cases e4 : (m : Int) ≤ 240
        · have E := Hid.mk' (z 2 (by unfold mkK; rw [EE.out, e1, decide_eq_true (show n = 0 by omega), decide_eq_true (show 1 ≤ (m : Int) by omega), decide_eq_true e4]; rfl) (by omega))
          clear z
          go_enter Tryz.func92, Tryz.ntmps92
          go_wp2_with go_big_skip
          refine bodyPost_ret (v := .agg #[.int .i64 2, .string ⟨#[]⟩, .slice none 0 0]) (by simp [results, Tryz.results92, go_sem, *]) rfl ?_
          exact ⟨by rw [E.out], ((below_new _ _).alloc (by simp) _)⟩
        · skip
          have E := Hid.mk' (z 0 (by unfold mkK; rw [EE.out, e1, decide_eq_false e4]; simp) (by omega))
          clear z
          go_enter Tryz.func92, Tryz.ntmps92
          go_wp2_with go_big_skip
          refine bodyPost_ret (v := .agg #[.int .i64 0, .string ⟨#[]⟩, .slice none 0 0]) (by simp [results, Tryz.results92, go_sem, *]) rfl ?_
          exact ⟨by rw [E.out], ((below_new _ _).alloc (by simp) _)⟩
      · skip
        have E := Hid.mk' (z 0 (by unfold mkK; rw [EE.out, e1, decide_eq_false (show ¬ 1 ≤ (m : Int) by omega)]; simp) (by omega))
        clear z
        go_enter Tryz.func92, Tryz.ntmps92
        go_wp2_with go_big_skip
        refine bodyPost_ret (v := .agg #[.int .i64 0, .string ⟨#[]⟩, .slice none 0 0]) (by simp [results, Tryz.results92, go_sem, *]) rfl ?_
        exact ⟨by rw [E.out], ((below_new _ _).alloc (by simp) _)⟩
    · skip
      have E := Hid.mk' (z 0 (by unfold mkK; rw [EE.out, e1, decide_eq_false (show ¬ n = 0 by omega)]; simp) (by omega))
      clear z
      go_enter Tryz.func92, Tryz.ntmps92
      go_wp2_with go_big_skip
      refine bodyPost_ret (v := .agg #[.int .i64 0, .string ⟨#[]⟩, .slice none 0 0]) (by simp [results, Tryz.results92, go_sem, *]) rfl ?_
      exact ⟨by rw [E.out], ((below_new _ _).alloc (by simp) _)⟩

set_option maxHeartbeats 1600000 in
theorem isText_any (k : Int) (s : ByteArray) (v : Value) (w : World) :
    Calls Tryz.prog 113 #[.agg #[.int .i64 k, .string s, v]] w fun e w' => e = .returned (.bool (decide (k = 2))) ∧ Below w.heap.size w w' := by
  go_enter Tryz.func113, Tryz.ntmps113
  go_wp2
  go_ret
  exact ⟨by by_cases h : k = 2 <;> simp [h], below_new _ _⟩

set_option maxHeartbeats 1600000 in
theorem mayHold_any (k : Int) (s : ByteArray) (v : Value) (w : World) :
    Calls Tryz.prog 97 #[.agg #[.int .i64 k, .string s, v]] w fun e w' => e = .returned (.bool (decide (k = 1) && !voidB s)) ∧ Below w.heap.size w w' := by
  have KV : Hid (∀ w', Calls Tryz.prog 115 #[.string s] w' fun e w'' => e = .returned (.bool (voidB s)) ∧ w'' = w') := fun w' => implVoid_any s w'
  by_cases h : k = 1
  · subst h
    go_enter Tryz.func97, Tryz.ntmps97
    go_wp2_with (first | go_big_skip | (go_at_call 115; refine (KV.out _).mono ?_; rintro e w9 ⟨rfl, hw9⟩; obtain rfl := hw9.symm))
    go_ret
    exact ⟨by simp, below_new _ _⟩
  · go_enter Tryz.func97, Tryz.ntmps97
    go_wp2_with (first | go_big_skip | (go_at_call 115; refine (KV.out _).mono ?_; rintro e w9 ⟨rfl, hw9⟩; obtain rfl := hw9.symm))
    go_ret
    exact ⟨by simp [h], below_new _ _⟩

theorem tf_start (s : ByteArray) (l : List AT) : tfault ⟨2, 0, s, l, false⟩ = if nmB s = true then afault l else 5 := by
  unfold tfault tform
  cases h : nmB s <;> simp [h]

set_option maxHeartbeats 3200000 in
theorem fault_any (t : ND) (a : Option Addr) (c : Nat) (w : World) (ha : AAt w a t.at_) (hl : (nsz t : Int) ≤ 1048576) :
    Calls Tryz.prog 112 #[.agg #[.int .i64 (mkK t), .string (mkS t), mkV t (.slice a t.at_.length c)]] w fun e w' => e = .returned (.int .i64 (markF t)) ∧ Below w.heap.size w w' := by
  rcases mkK_cases t with ⟨h1, h2⟩ | ⟨h1, h2, h3⟩ | ⟨h1, h2, h3⟩
  · have E : Hid (markF t = 1) := Hid.mk' (by unfold markF; rw [h1]; rfl)
    unfold mkS mkV
    rw [h2, if_neg (by omega), if_neg (by omega)]
    go_enter Tryz.func112, Tryz.ntmps112
    go_wp2
    go_ret
    exact ⟨by rw [E.out]; rfl, below_new _ _⟩
  · have E : Hid (markF t = 0) := Hid.mk' (by unfold markF; rw [h1, h2]; rfl)
    unfold mkS mkV
    rw [h3, if_neg (by omega), if_neg (by omega)]
    go_enter Tryz.func112, Tryz.ntmps112
    go_wp2
    go_ret
    exact ⟨by rw [E.out]; rfl, below_new _ _⟩
  · have E : Hid (markF t = tfault ⟨2, 0, t.tg, t.at_, false⟩) := Hid.mk' (by rw [tf_start]; unfold markF; rw [h1, h2]; rfl)
    have KT : Hid (∀ w', Below w.heap.size w w' → Calls Tryz.prog 73 #[.agg #[.int .i64 2, .int .i64 0, .string t.tg, .slice a t.at_.length c, .bool false]] w' fun e w'' => e = .returned (.int .i64 (tfault ⟨2, 0, t.tg, t.at_, false⟩)) ∧ Below w'.heap.size w' w'') := fun w' hb => implTF_any ⟨2, 0, t.tg, t.at_, false⟩ a c w' (ha.below hb) (by unfold nsz at hl; show (t.tg.size : Int) ≤ _; omega) (by unfold nsz at hl; show (t.at_.length : Int) + asz t.at_ ≤ _; omega)
    unfold mkS mkV
    rw [h3, if_pos rfl, if_pos rfl]
    generalize tfault ⟨2, 0, t.tg, t.at_, false⟩ = f at *
    have HB := Hid.mk' ((below_new w (.cells #[.int .i64 1, .string t.tg, .slice a t.at_.length c] 135)))
    clear ha h1 h2 h3
    go_enter Tryz.func112, Tryz.ntmps112
    go_wp2_with fail
    refine (KT.out _ (by first | exact HB.out | exact HB.out.alloc (by simp) _)).mono ?_
    rintro e w1 ⟨rfl, hb⟩
    have HC := Hid.mk' hb
    clear hb KT
    go_wp2
    go_ret
    exact ⟨by rw [E.out]; rfl, by first | exact HB.out.trans (HC.out.mono HB.out.size) | exact (HB.out.alloc (by simp) _).trans (HC.out.mono (HB.out.alloc (by simp) _).size)⟩

end Go.Proofs.YtpcpnfpnkkjkcaaGreat

/- Plain mathematics of pieces that are cut at a place; two rows of one's own that grow side by side. -/
namespace Go.Proofs.YtpcpnfpnkkjkcaaGreat
open Go.RowKit
set_option linter.unusedVariables false

/-- What a piece leaves ahead of a place x (from its beginning), and behind it. -/
def stepA (p : PC) (x : Int) : List PC := if p.sz ≤ x then [p] else if x ≤ 0 then [] else [⟨p.ad, p.fr, x⟩]
def stepB (p : PC) (x : Int) : List PC := if p.sz ≤ x then [] else if x ≤ 0 then [p] else [⟨p.ad, p.fr + x, p.sz - x⟩]
/-- The pieces up to a place, and those from it on. -/
def partA : List PC → Int → List PC
  | [], _ => []
  | p :: r, x => stepA p x ++ partA r (x - p.sz)
def partB : List PC → Int → List PC
  | [], _ => []
  | p :: r, x => stepB p x ++ partB r (x - p.sz)

theorem partA_snoc (l : List PC) (p : PC) : ∀ x, partA (l ++ [p]) x = partA l x ++ stepA p (x - total l) := by
  induction l with
  | nil => intro x; simp [partA, total]
  | cons q r ih => intro x; simp only [List.cons_append, partA, total, ih, List.append_assoc]; rw [show x - q.sz - total r = x - (q.sz + total r) from by omega]
theorem partB_snoc (l : List PC) (p : PC) : ∀ x, partB (l ++ [p]) x = partB l x ++ stepB p (x - total l) := by
  induction l with
  | nil => intro x; simp [partB, total]
  | cons q r ih => intro x; simp only [List.cons_append, partB, total, ih, List.append_assoc]; rw [show x - q.sz - total r = x - (q.sz + total r) from by omega]
theorem partA_take (l : List PC) (k : Nat) (x : Int) (h : k < l.length) : partA (l.take (k + 1)) x = partA (l.take k) x ++ stepA (pc l k) (x - total (l.take k)) := by
  rw [take_snoc l k h, partA_snoc, pc_get l k h]
theorem partB_take (l : List PC) (k : Nat) (x : Int) (h : k < l.length) : partB (l.take (k + 1)) x = partB (l.take k) x ++ stepB (pc l k) (x - total (l.take k)) := by
  rw [take_snoc l k h, partB_snoc, pc_get l k h]

theorem stepA_len (p : PC) (x : Int) : (stepA p x).length ≤ 1 := by unfold stepA; split; simp; split <;> simp
theorem stepB_len (p : PC) (x : Int) : (stepB p x).length ≤ 1 := by unfold stepB; split; simp; split <;> simp
theorem partA_len (l : List PC) : ∀ x, (partA l x).length ≤ l.length := by
  induction l with
  | nil => intro x; simp [partA]
  | cons p r ih => intro x; have h1 := ih (x - p.sz); have h2 := stepA_len p x; simp only [partA, List.length_append, List.length_cons]; omega
theorem partB_len (l : List PC) : ∀ x, (partB l x).length ≤ l.length := by
  induction l with
  | nil => intro x; simp [partB]
  | cons p r ih => intro x; have h1 := ih (x - p.sz); have h2 := stepB_len p x; simp only [partB, List.length_append, List.length_cons]; omega

/-- Pieces whose numbers are small: none of what is reckoned with them wraps. -/
def Tame (l : List PC) : Prop := l.length ≤ 100 ∧ ∀ p ∈ l, 0 ≤ p.fr ∧ p.fr ≤ 100000 ∧ 0 ≤ p.sz ∧ p.sz ≤ 2000

theorem Tame.at {l : List PC} (h : Tame l) (k : Nat) (hk : k < l.length) : 0 ≤ (pc l k).fr ∧ (pc l k).fr ≤ 100000 ∧ 0 ≤ (pc l k).sz ∧ (pc l k).sz ≤ 2000 := by
  rw [pc_get l k hk]; exact h.2 _ (List.getElem_mem hk)

theorem Tame.total_le {l : List PC} (h : Tame l) : ∀ k, k ≤ l.length → 0 ≤ total (l.take k) ∧ total (l.take k) ≤ 2000 * k := by
  intro k
  induction k with
  | zero => intro _; simp [total]
  | succ k ih =>
    intro hk
    have h1 := ih (by omega)
    have h2 := h.at k (by omega)
    rw [total_take l k (by omega)]
    omega

theorem tame_of_fault {t : TB} (h : fault t = 0) : Tame t.pcs := by
  obtain ⟨h1, h2, h3, h4, _⟩ := fault_zero h
  refine ⟨by omega, fun p hp => ?_⟩
  have hl := lies_bounds (List.all_eq_true.1 h4 p hp)
  unfold room at hl
  split at hl <;> omega

theorem stepB_tame {p : PC} {x : Int} (h : 0 ≤ p.fr ∧ p.fr ≤ 2000 ∧ 0 ≤ p.sz ∧ p.sz ≤ 2000) : ∀ q ∈ stepB p x, 0 ≤ q.fr ∧ q.fr ≤ 100000 ∧ 0 ≤ q.sz ∧ q.sz ≤ 2000 := by
  intro q hq
  unfold stepB at hq
  split at hq
  · simp at hq
  · split at hq
    · simp at hq; subst hq; omega
    · simp at hq; subst hq; simp; omega

theorem partB_tame : ∀ (l : List PC) (x : Int), (∀ p ∈ l, 0 ≤ p.fr ∧ p.fr ≤ 2000 ∧ 0 ≤ p.sz ∧ p.sz ≤ 2000) → ∀ q ∈ partB l x, 0 ≤ q.fr ∧ q.fr ≤ 100000 ∧ 0 ≤ q.sz ∧ q.sz ≤ 2000
  | [], x, _, q, hq => by simp [partB] at hq
  | p :: r, x, h, q, hq => by
    simp only [partB, List.mem_append] at hq
    rcases hq with hq | hq
    · exact stepB_tame (h p (by simp)) q hq
    · exact partB_tame r _ (fun p' hp' => h p' (by simp [hp'])) q hq

theorem tame_partB {t : TB} (h : fault t = 0) (x : Int) : Tame (partB t.pcs x) := by
  have hT := tame_of_fault h
  obtain ⟨h1, h2, h3, h4, _⟩ := fault_zero h
  refine ⟨Nat.le_trans (partB_len _ _) hT.1, partB_tame _ _ (fun p hp => ?_)⟩
  have hl := lies_bounds (List.all_eq_true.1 h4 p hp)
  unfold room at hl
  split at hl <;> omega

/-- append(v, x...) onto a row of one's own, and where the answer lies. -/
theorem wpList_append_at {P : Program} (w : World) {ops : Array Oper} {rest : List Oper} {o : Oper} {a : Act} {Q : Exit → Act → World → Prop} (hgd : o.guard = none) (s x : Operand) (t : TypeId)
    (ho : o.op = .call { callee := .builtin .append, args := #[s, x], argTypes := #[t, t] })
    (base : Nat) (e : TypeId) (z : Value) (size bytes : Nat) (ht : P.underlying t = some (.slice e)) (hinfo : (P.info? e).map (fun i => (i.zero, i.size, i.bytes)) = some (some z, size, bytes))
    (hzs : z.cells.size = size) (hsz : 0 < size)
    (v : Value) (n : Nat) (xs : List Value) (hs : a.eval s = v) (hown : w.ownsRow base e size v n xs)
    (ax : Option Addr) (m c : Nat) (news : List Value) (hx : a.eval x = .slice ax m c) (hl : news.length = m * size)
    (hsrc : m = 0 ∨ ∃ ad, ax = some ad ∧ ∀ j u, news[j]? = some u → w.cell? (ad.add j) = some u) (h1 : ∀ u ∈ news, u.oneCell' = true)
    (h63 : n + m ≤ maxLen) (hbytes : (n + m) * bytes ≤ 140737488355328) (hbase : base ≤ w.heap.size)
    (h : ∀ v' w', w'.ownsRow base e size v' (n + m) (xs ++ news) → w.grownBy w' v.ownBlock → (v'.ownBlock = v.ownBlock ∨ v'.ownBlock = some w.heap.size) → wpList P ops Q rest (a.put o.dst v') w') : wpList P ops Q (o :: rest) a w := by
  obtain ⟨i, hi, hz0, hz1, hz2⟩ := info_parts hinfo
  refine wpList_plain hgd fun K hK => ?_
  cases ax with
  | some ad =>
    have hnews : ∀ j u, news[j]? = some u → w.cell? (ad.add j) = some u := by
      rcases hsrc with h0 | ⟨ad', e', hc⟩
      · subst h0
        have : news = [] := List.eq_nil_of_length_eq_zero (by simpa using hl)
        subst this
        intro j u hj
        simp at hj
      · cases e'
        exact hc
    obtain ⟨v', w', hr, h2, h3, _, h5⟩ := run_append_own_at (P := P) w base t o.type e i z size bytes ht hi hz0 hz1 hz2 hzs hsz v n xs hown ad m c news hl hnews h1 h63 hbytes hbase
    unfold Oper.wp execOp
    simp only [ho, resolve, invoke, builtin, Sem.run_bind, Sem.run_pure, Result.andThen_ok, List.map_toArray, List.map_cons, List.map_nil, hs, hx, hr]
    exact hK _ _ (h v' w' h2 h3 h5)
  | none =>
    have hm : m = 0 := by
      rcases hsrc with h0 | ⟨ad', e', _⟩
      · exact h0
      · cases e'
    subst hm
    have hn : news = [] := List.eq_nil_of_length_eq_zero (by simpa using hl)
    subst hn
    have hr : (Builtin.append_ #[t, t] o.type #[v, .slice none 0 c]).run P w = .ok v w := by
      rcases hown.2 with ⟨rfl, rfl⟩ | ⟨g, cap, cur, rfl, _, _, hnc, _⟩
      · simp [Builtin.append_, run_underlying ht, sizeOf, typeInfo, hi, Builtin.lenOf, Builtin.firstCells]
      · simp [Builtin.append_, run_underlying ht, sizeOf, typeInfo, hi, Builtin.lenOf, Builtin.firstCells, hnc, storeCells]
    unfold Oper.wp execOp
    simp only [ho, resolve, invoke, builtin, Sem.run_bind, Sem.run_pure, Result.andThen_ok, List.map_toArray, List.map_cons, List.map_nil, hs, hx, hr]
    exact hK _ _ (h v w (by simpa using hown) ⟨rfl, rfl, rfl, Nat.le_refl _, fun _ _ _ => rfl⟩ (.inl rfl))

/-- The same as one step of a region that draws its order. -/
theorem step_append_at {P : Program} {ops : Array Oper} {o : Oper} {a : Act} {w : World} {K : Act → World → Prop} {Q : Exit → Act → World → Prop} {E : Prop} (hgd : o.guard = none) (s x : Operand) (t : TypeId)
    (ho : o.op = .call { callee := .builtin .append, args := #[s, x], argTypes := #[t, t] })
    (base : Nat) (e : TypeId) (z : Value) (size bytes : Nat) (ht : P.underlying t = some (.slice e)) (hinfo : (P.info? e).map (fun i => (i.zero, i.size, i.bytes)) = some (some z, size, bytes))
    (hzs : z.cells.size = size) (hsz : 0 < size)
    (v : Value) (n : Nat) (xs : List Value) (hs : a.eval s = v) (hown : w.ownsRow base e size v n xs)
    (ax : Option Addr) (m c : Nat) (news : List Value) (hx : a.eval x = .slice ax m c) (hl : news.length = m * size)
    (hsrc : m = 0 ∨ ∃ ad, ax = some ad ∧ ∀ j u, news[j]? = some u → w.cell? (ad.add j) = some u) (h1 : ∀ u ∈ news, u.oneCell' = true)
    (h63 : n + m ≤ maxLen) (hbytes : (n + m) * bytes ≤ 140737488355328) (hbase : base ≤ w.heap.size)
    (h : ∀ v' w', w'.ownsRow base e size v' (n + m) (xs ++ news) → w.grownBy w' v.ownBlock → (v'.ownBlock = v.ownBlock ∨ v'.ownBlock = some w.heap.size) → K (a.put o.dst v') w') :
    if Region.wanted o (yielded ops a.tmps) = true then Oper.wp P o a w K Q else E := by
  have hw : Region.wanted o (yielded ops a.tmps) = true := by simp [Region.wanted, hgd]
  rw [if_pos hw]
  obtain ⟨i, hi, hz0, hz1, hz2⟩ := info_parts hinfo
  cases ax with
  | some ad =>
    have hnews : ∀ j u, news[j]? = some u → w.cell? (ad.add j) = some u := by
      rcases hsrc with h0 | ⟨ad', e', hc⟩
      · subst h0
        have : news = [] := List.eq_nil_of_length_eq_zero (by simpa using hl)
        subst this
        intro j u hj
        simp at hj
      · cases e'
        exact hc
    obtain ⟨v', w', hr, h2, h3, _, h5⟩ := run_append_own_at (P := P) w base t o.type e i z size bytes ht hi hz0 hz1 hz2 hzs hsz v n xs hown ad m c news hl hnews h1 h63 hbytes hbase
    unfold Oper.wp execOp
    simp only [ho, resolve, invoke, builtin, Sem.run_bind, Sem.run_pure, Result.andThen_ok, List.map_toArray, List.map_cons, List.map_nil, hs, hx, hr]
    exact h v' w' h2 h3 h5
  | none =>
    have hm : m = 0 := by
      rcases hsrc with h0 | ⟨ad', e', _⟩
      · exact h0
      · cases e'
    subst hm
    have hn : news = [] := List.eq_nil_of_length_eq_zero (by simpa using hl)
    subst hn
    have hr : (Builtin.append_ #[t, t] o.type #[v, .slice none 0 c]).run P w = .ok v w := by
      rcases hown.2 with ⟨rfl, rfl⟩ | ⟨g, cap, cur, rfl, _, _, hnc, _⟩
      · simp [Builtin.append_, run_underlying ht, sizeOf, typeInfo, hi, Builtin.lenOf, Builtin.firstCells]
      · simp [Builtin.append_, run_underlying ht, sizeOf, typeInfo, hi, Builtin.lenOf, Builtin.firstCells, hnc, storeCells]
    unfold Oper.wp execOp
    simp only [ho, resolve, invoke, builtin, Sem.run_bind, Sem.run_pure, Result.andThen_ok, List.map_toArray, List.map_cons, List.map_nil, hs, hx, hr]
    exact h v w (by simpa using hown) ⟨rfl, rfl, rfl, Nat.le_refl _, fun _ _ _ => rfl⟩ (.inl rfl)

/-- Two rows of pieces of one's own, side by side. -/
structure Two (base : Nat) (e : TypeId) (w : World) (va vb : Value) (A B : List PC) (wr : World) : Prop where
  oa : wr.ownsRow base e 3 va A.length (pcs A)
  ob : wr.ownsRow base e 3 vb B.length (pcs B)
  ap : Ap va vb
  bl : Below base w wr
  sz : base ≤ wr.heap.size

theorem Two.alloc {base : Nat} {e : TypeId} {w wr : World} {va vb : Value} {A B : List PC} (h : Two base e w va vb A B wr) (o : Obj) : Two base e w va vb A B (wr.alloc o) :=
  ⟨h.oa.alloc o, h.ob.alloc o, h.ap, h.bl.alloc h.sz o, by have := h.sz; simp; omega⟩

theorem own_keep {w w' : World} {base : Nat} {e : TypeId} {size : Nat} {v : Value} {n : Nat} {xs : List Value} (h : w.ownsRow base e size v n xs) (hb : Below w.heap.size w w') : w'.ownsRow base e size v n xs :=
  h.kept (row := none) ⟨hb.os, hb.tape, hb.output, hb.size, fun k hk _ => hb.block k hk⟩ (by cases hv : v.ownBlock <;> simp)

theorem Two.below {base : Nat} {e : TypeId} {w wr w' : World} {va vb : Value} {A B : List PC} (h : Two base e w va vb A B wr) (hb : Below wr.heap.size wr w') : Two base e w va vb A B w' :=
  ⟨own_keep h.oa hb, own_keep h.ob hb, h.ap, h.bl.trans (hb.mono h.sz), Nat.le_trans h.sz hb.size⟩

theorem Two.appA {base : Nat} {e : TypeId} {w wr w1 : World} {va vb v' : Value} {A B C : List PC} (h : Two base e w va vb A B wr) (ho : w1.ownsRow base e 3 v' (A.length + C.length) (pcs A ++ pcs C)) (hg : wr.grownBy w1 va.ownBlock) (hat : v'.ownBlock = va.ownBlock ∨ v'.ownBlock = some wr.heap.size) : Two base e w v' vb (A ++ C) B w1 := by
  refine ⟨by rw [List.length_append, pcs_append]; exact ho, h.ob.kept hg ?_, fun k e1 e2 => ?_, h.bl.grown hg h.sz (own_lo h.oa), Nat.le_trans h.sz hg.size⟩
  · cases hv : vb.ownBlock with
    | none => left; rfl
    | some k => right; intro e'; exact h.ap k e'.symm hv
  · rcases hat with ha | ha
    · exact h.ap k (ha ▸ e1) e2
    · rw [ha] at e1
      have := (h.ob.lt k e2).2
      simp at e1
      omega

theorem Two.swap {base : Nat} {e : TypeId} {w wr : World} {va vb : Value} {A B : List PC} (h : Two base e w va vb A B wr) : Two base e w vb va B A wr := ⟨h.ob, h.oa, h.ap.symm, h.bl, h.sz⟩

theorem Two.appB {base : Nat} {e : TypeId} {w wr w1 : World} {va vb v' : Value} {A B C : List PC} (h : Two base e w va vb A B wr) (ho : w1.ownsRow base e 3 v' (B.length + C.length) (pcs B ++ pcs C)) (hg : wr.grownBy w1 vb.ownBlock) (hat : v'.ownBlock = vb.ownBlock ∨ v'.ownBlock = some wr.heap.size) : Two base e w va v' A (B ++ C) w1 :=
  (h.swap.appA ho hg hat).swap

/-- The three cells of one piece, laid in a new block. -/
theorem one_piece (w : World) (t : TypeId) (p : PC) : ∀ j u, (pcs [p])[j]? = some u → (w.alloc (.cells #[.bool p.ad, .int .i64 p.fr, .int .i64 p.sz] t)).cell? ((⟨w.heap.size, 0, none⟩ : Addr).add j) = some u := by
  intro j u hj
  have hr := row3 w t (.bool p.ad) (.int .i64 p.fr) (.int .i64 p.sz)
  have hlt : j < 3 := by have := (List.getElem?_eq_some_iff.1 hj).1; simpa [pcs] using this
  rw [Addr.add_mid, Nat.zero_add, hr.cell hlt, ← hj]
  have : j = 0 ∨ j = 1 ∨ j = 2 := by omega
  rcases this with rfl | rfl | rfl <;> simp [pcs, r3]

end Go.Proofs.YtpcpnfpnkkjkcaaGreat

/- The program's tree in memory. -/
namespace Go.Proofs.YtpcpnfpnkkjkcaaGreat
open Go.RowKit
set_option linter.unusedVariables false
set_option linter.unusedSimpArgs false

/-- Numbers lie at an address. -/
def IAt (w : World) (a : Option Addr) (l : List Int) : Prop :=
  l = [] ∨ ∃ b o, a = some ⟨b, o, none⟩ ∧ b < w.heap.size ∧ ∀ k, k < l.length → w.cell? ⟨b, o + k, none⟩ = some (.int .i64 (wv l k))

theorem IAt.below {w w' : World} {a : Option Addr} {l : List Int} (h : IAt w a l) (hb : Below w.heap.size w w') : IAt w' a l := by
  rcases h with h | ⟨b, o, ha, hl, hc⟩
  · exact .inl h
  · exact .inr ⟨b, o, ha, Nat.lt_of_lt_of_le hl hb.size, fun k hk => (hb.cell hl).trans (hc k hk)⟩

/-- Where a number stands; -1: nowhere. -/
def ixI (l : List Int) (x : Int) : Int := if ixF l x < l.length then (ixF l x : Int) else -1

set_option maxHeartbeats 1600000 in
theorem indexI_any (a : Option Addr) (c : Nat) (l : List Int) (x : Int) (w : World) (ha : IAt w a l) (hl : (l.length : Int) ≤ 1048576) :
    Calls Tryz.prog 93 #[.slice a l.length c, .int .i64 x] w fun e w' => e = .returned (.int .i64 (ixI l x)) ∧ w' = w := by
  go_enter Tryz.func93, Tryz.ntmps93
  go_wp2
  go_loop [8] (fun i => ∃ k : Nat, k ≤ l.length ∧ i = .int .i64 k ∧ ∀ j, j < k → ¬ wv l j = x) (fun i => l.length - (intOf i).toNat)
  case atStart => exact ⟨0, Nat.zero_le _, rfl, fun j h => absurd h (Nat.not_lt_zero _)⟩
  case round =>
    obtain ⟨k, hk, rfl, hn⟩ := hrel
    have HN := Hid.mk' hn
    clear hn
    by_cases hlt : k < l.length
    · have ci : (k : Int) < (l.length : Int) := by omega
      rcases ha with ha | ⟨b, o, rfl, hbs, hc⟩
      · exact absurd hlt (by rw [ha]; exact Nat.not_lt_zero _)
      have h1 := hc k hlt
      clear hc
      by_cases e : wv l k = x
      · have E : Hid (ixI l x = (k : Int)) := Hid.mk' (by
          unfold ixI
          rw [ixF_found l x k hlt HN.out e, if_pos hlt])
        rw [e] at h1
        clear e
        go_wp2
        go_ret
        exact ⟨by rw [E.out]; rfl, rfl⟩
      · have e' : ¬ x = wv l k := fun h => e h.symm
        have EE := Hid.mk' e
        clear e
        go_wp2
        go_round
        case rel => exact ⟨k + 1, by omega, by go_num, fun j hj => by
          by_cases h : j = k
          · subst h; exact EE.out
          · exact HN.out j (by omega)⟩
        case measure => simp [intOf]; omega
    · have ci : ¬ (k : Int) < (l.length : Int) := by omega
      have e : k = l.length := by omega
      subst e
      have E : Hid (ixI l x = -1) := Hid.mk' (by
        unfold ixI
        rw [ixF_none l x HN.out, if_neg (Nat.lt_irrefl _)])
      go_wp2
      go_ret
      exact ⟨by rw [E.out]; rfl, rfl⟩

/-- The five cells of a node in its place. -/
def pcell (l : List ND) (va : Nat → Value) (j : Nat) : List Value := [.int .i64 (mkK (ndK l j)), .string (mkS (ndK l j)), mkV (ndK l j) (va j), .int .i64 (ndK l j).up, .int .i64 (depU (upF l) j : Int)]

/-- The cells of k of them. -/
def pcs5 (l : List ND) (va : Nat → Value) : Nat → List Value
  | 0 => []
  | k + 1 => pcs5 l va k ++ pcell l va k

theorem pcs5_len (l : List ND) (va : Nat → Value) : ∀ k, (pcs5 l va k).length = k * 5
  | 0 => rfl
  | k + 1 => by simp [pcs5, pcs5_len l va k, pcell]; omega

theorem pcs5_get (l : List ND) (va : Nat → Value) : ∀ (k j i : Nat), j < k → i < 5 → (pcs5 l va k)[j * 5 + i]? = (pcell l va j)[i]?
  | 0, _, _, h, _ => absurd h (Nat.not_lt_zero _)
  | k + 1, j, i, h, hi => by
    unfold pcs5
    by_cases e : j = k
    · subst e
      rw [List.getElem?_append_right (by rw [pcs5_len]; omega), pcs5_len, show j * 5 + i - j * 5 = i by omega]
    · rw [List.getElem?_append_left (by rw [pcs5_len]; omega)]
      exact pcs5_get l va k j i (by omega) hi

/-- The attributes of nodes, as slices. -/
def sv (l : List ND) (pa : Nat → Option Addr) (ca : Nat → Nat) (j : Nat) : Value := .slice (pa j) (ndK l j).at_.length (ca j)

theorem mkV_one (t : ND) (l : List ND) (pa : Nat → Option Addr) (ca : Nat → Nat) (j : Nat) : (mkV t (sv l pa ca j)).oneCell' = true := by
  unfold mkV sv; split <;> rfl

theorem pcell_one (l : List ND) (pa : Nat → Option Addr) (ca : Nat → Nat) (j : Nat) : ∀ u ∈ pcell l (sv l pa ca) j, u.oneCell' = true := by
  intro u hu
  simp only [pcell, List.mem_cons, List.not_mem_nil, or_false] at hu
  rcases hu with rfl | rfl | rfl | rfl | rfl
  · rfl
  · rfl
  · exact mkV_one _ _ _ _ _
  · rfl
  · rfl

/-- The cells of numbers. -/
def ics (l : List Int) : List Value := l.map (Value.int .i64)
theorem ics_len (l : List Int) : (ics l).length = l.length * 1 := by simp [ics]
theorem ics_one (l : List Int) : ∀ u ∈ ics l, u.oneCell' = true := by
  intro u hu; simp [ics] at hu; obtain ⟨x, _, rfl⟩ := hu; rfl
theorem ics_get (l : List Int) (j : Nat) (h : j < l.length) : (ics l)[j]? = some (.int .i64 (wv l j)) := by simp [ics, wv, h]

/-- The cells of a row of one's own. -/
theorem own_spot {w : World} {base : Nat} {e : TypeId} {size : Nat} {v : Value} {n : Nat} {xs : List Value} (h : w.ownsRow base e size v n xs) (hn : 0 < n) : ∃ g cap, v = .slice (some ⟨g, 0, none⟩) n cap ∧ base ≤ g ∧ g < w.heap.size ∧ n ≤ cap ∧ ∀ i, i < n * size → w.cell? ⟨g, i, none⟩ = xs[i]? := by
  rcases h.2 with ⟨rfl, h0⟩ | ⟨g, cap, cur, rfl, hg, hh, hc, hm, hs, ht⟩
  · omega
  · refine ⟨g, cap, rfl, hg, ?_, hc, fun i hi => ?_⟩
    · exact Nat.lt_of_not_le fun hn => by rw [Array.getElem?_eq_none hn] at hh; cases hh
    · have q : w.cell? ⟨g, i, none⟩ = cur[i]? := Lib.cell_of_heap hh i
      rw [q, ← ht, List.getElem?_take_of_lt hi]
      simp

/-- The first m of a row of one's own. -/
theorem own_take {w : World} {base g cap n m : Nat} {e : TypeId} {size : Nat} {xs : List Value} (h : w.ownsRow base e size (.slice (some ⟨g, 0, none⟩) n cap) n xs) (hm : m ≤ n) : w.ownsRow base e size (.slice (some ⟨g, 0, none⟩) m cap) m (xs.take (m * size)) := by
  have hle : m * size ≤ n * size := Nat.mul_le_mul_right _ hm
  refine ⟨by rw [List.length_take, h.1]; omega, .inr ?_⟩
  rcases h.2 with ⟨h0, _⟩ | ⟨g', cap', cur, hv, hg, hh, hc, hml, hs, ht⟩
  · cases h0
  · cases hv
    exact ⟨g, cap, cur, rfl, hg, hh, by omega, hml, hs, by rw [← ht, List.take_take, Nat.min_eq_left hle]⟩

theorem own_iat {w : World} {base : Nat} {v : Value} {l : List Int} (h : w.ownsRow base 2 1 v l.length (ics l)) (hn : 0 < l.length) : ∃ g cap, v = .slice (some ⟨g, 0, none⟩) l.length cap ∧ base ≤ g ∧ g < w.heap.size ∧ l.length ≤ cap ∧ IAt w (some ⟨g, 0, none⟩) l := by
  obtain ⟨g, cap, e, h1, h2, h3, h4⟩ := own_spot h hn
  exact ⟨g, cap, e, h1, h2, h3, .inr ⟨g, 0, rfl, h2, fun k hk => by rw [Nat.zero_add, h4 k (by omega)]; exact ics_get l k hk⟩⟩

/-- A tree of the program in its box at g: k nodes, and the way to the next one. -/
structure TT (w0 : World) (base g : Nat) (l : List ND) (pa : Nat → Option Addr) (ca : Nat → Nat) (k : Nat) (vn vw : Value) (w : World) : Prop where
  box : w.rowIs g 110 2 (p2 vn vw)
  on : w.ownsRow base 139 5 vn k (pcs5 l (sv l pa ca) k)
  ow : w.ownsRow base 2 1 vw (wayU (upF l) k).length (ics (wayU (upF l) k))
  ap : Ap vn vw
  an : ¬ vn.ownBlock = some g
  aw : ¬ vw.ownBlock = some g
  bl : Below base w0 w
  sz : base ≤ w.heap.size
  bg : base ≤ g

theorem TT.below {w0 w w' : World} {base g : Nat} {l : List ND} {pa : Nat → Option Addr} {ca : Nat → Nat} {k : Nat} {vn vw : Value} (h : TT w0 base g l pa ca k vn vw w) (hb : Below w.heap.size w w') : TT w0 base g l pa ca k vn vw w' :=
  ⟨rowB h.box hb, own_keep h.on hb, own_keep h.ow hb, h.ap, h.an, h.aw, h.bl.trans (hb.mono h.sz), Nat.le_trans h.sz hb.size, h.bg⟩

end Go.Proofs.YtpcpnfpnkkjkcaaGreat

/- The program's side of a tree's fault: a node in its place. -/
namespace Go.Proofs.YtpcpnfpnkkjkcaaGreat
open Go.RowKit
set_option linter.unusedVariables false
set_option linter.unusedSimpArgs false

/-- The last one is a text, and has that Up. -/
def lastB (l : List ND) (k : Nat) (x : Int) : Bool := decide (0 < k) && (decide (mkK (ndK l (k - 1)) = 2) && decide ((ndK l (k - 1)).up = x))

theorem TT.node {w0 w : World} {base g : Nat} {l : List ND} {pa : Nat → Option Addr} {ca : Nat → Nat} {k : Nat} {vn vw : Value} (h : TT w0 base g l pa ca k vn vw w) (hk : 0 < k) : ∃ b cap, vn = .slice (some ⟨b, 0, none⟩) k cap ∧ base ≤ b ∧ b < w.heap.size ∧ ∀ j, j < k → w.cell? ⟨b, j * 5, none⟩ = some (.int .i64 (mkK (ndK l j))) ∧ w.cell? ⟨b, j * 5 + 1, none⟩ = some (.string (mkS (ndK l j))) ∧ w.cell? ⟨b, j * 5 + 2, none⟩ = some (mkV (ndK l j) (sv l pa ca j)) ∧ w.cell? ⟨b, j * 5 + 3, none⟩ = some (.int .i64 (ndK l j).up) ∧ w.cell? ⟨b, j * 5 + 4, none⟩ = some (.int .i64 (depU (upF l) j : Int)) := by
  obtain ⟨b, cap, e, h1, h2, h3, h4⟩ := own_spot h.on hk
  refine ⟨b, cap, e, h1, h2, fun j hj => ?_⟩
  have q := fun i (hi : i < 5) => (h4 (j * 5 + i) (by omega)).trans (pcs5_get l (sv l pa ca) k j i hj hi)
  exact ⟨q 0 (by omega), q 1 (by omega), q 2 (by omega), q 3 (by omega), q 4 (by omega)⟩

theorem mkV_slice (t : ND) (l : List ND) (pa : Nat → Option Addr) (ca : Nat → Nat) (j : Nat) : ∃ p n c, mkV t (sv l pa ca j) = .slice p n c := by
  unfold mkV sv; split <;> exact ⟨_, _, _, rfl⟩

set_option maxHeartbeats 3200000 in
theorem endsText_any (w0 : World) (base g : Nat) (l : List ND) (pa : Nat → Option Addr) (ca : Nat → Nat) (k : Nat) (vn vw : Value) (x : Int) (w : World) (h : TT w0 base g l pa ca k vn vw w) (hk : k ≤ 60) :
    Calls Tryz.prog 114 #[.pointer (some ⟨g, 0, none⟩), .int .i64 x] w fun e w' => e = .returned (.bool (lastB l k x)) ∧ Below w.heap.size w w' := by
  obtain ⟨c0, c1, c2⟩ := cells2 h.box
  rcases Nat.eq_zero_or_pos k with h0 | h0
  · subst h0
    have e : ∃ a c, vn = .slice a 0 c := by
      rcases h.on.2 with ⟨rfl, _⟩ | ⟨g', cap', cur, rfl, _⟩
      · exact ⟨_, _, rfl⟩
      · exact ⟨_, _, rfl⟩
    obtain ⟨a, c, rfl⟩ := e
    clear h
    go_enter Tryz.func114, Tryz.ntmps114
    go_wp2
    go_ret
    exact ⟨by simp [lastB], Below.refl _ _⟩
  · obtain ⟨b, cap, rfl, h1, h2, h3⟩ := h.node h0
    obtain ⟨j, hj⟩ : ∃ j, k - 1 = j := ⟨_, rfl⟩
    obtain ⟨d0, d1, d2, d3, d4⟩ := h3 j (by omega)
    have E : Hid (lastB l k x = (decide (mkK (ndK l j) = 2) && decide ((ndK l j).up = x))) := Hid.mk' (by unfold lastB; rw [hj, decide_eq_true h0]; rfl)
    have kj : (k : Int) - 1 = (j : Int) := by omega
    have jk : (j : Int) < (k : Int) := by omega
    have KT := Hid.mk' (fun w' => isText_any (mkK (ndK l j)) (mkS (ndK l j)) (mkV (ndK l j) (sv l pa ca j)) w')
    have k0 : ¬ (k : Int) = 0 := by omega
    have wk : IntKind.i64.wrap ((k : Int) - 1) = (j : Int) := by rw [kj]; rw [IntKind.wrap_i64]; omega
    have wj : IntKind.i64.wrap (j : Int) = (j : Int) := by rw [IntKind.wrap_i64]; omega
    have j0 : (0 : Int) ≤ (j : Int) := by omega
    generalize hK : mkK (ndK l j) = K at *
    generalize hS : mkS (ndK l j) = S at *
    obtain ⟨pp, nn, cc, hV⟩ := mkV_slice (ndK l j) l pa ca j
    rw [hV] at d2 KT
    generalize hU : (ndK l j).up = U at *
    clear h h3 hK hS hV hU hj
    have x0 := World.new_ne w ⟨g, 0, none⟩ c0
    have x1 := World.new_ne w ⟨b, j * 5, none⟩ d0
    dsimp only at x0 x1
    go_enter Tryz.func114, Tryz.ntmps114
    go_wp2_with fail
    go_region_held3 (fun w' => w'.cell? ⟨g, 0, none⟩ = some (.slice (some ⟨b, 0, none⟩) k cap) ∧ w'.cell? ⟨b, j * 5, none⟩ = some (.int .i64 K) ∧ w'.cell? ⟨b, j * 5 + 1, none⟩ = some (.string S) ∧ w'.cell? ⟨b, j * 5 + 2, none⟩ = some (.slice pp nn cc) ∧ w'.cell? ⟨b, j * 5 + 3, none⟩ = some (.int .i64 U) ∧ w'.cell? ⟨b, j * 5 + 4, none⟩ = some (.int .i64 (depU (upF l) j : Int))) (go_keep)
      (fail)
    have RR := (row5 w 139 (.int .i64 K) (.string S) (.slice pp nn cc) (.int .i64 U) (.int .i64 (depU (upF l) j : Int))).drew
    have BB := (below_new w (.cells #[.int .i64 K, .string S, .slice pp nn cc, .int .i64 U, .int .i64 (depU (upF l) j : Int)] 139)).drew
    generalize hW : (w.alloc (.cells #[.int .i64 K, .string S, .slice pp nn cc, .int .i64 U, .int .i64 (depU (upF l) j : Int)] 139)).drew = W at *
    obtain ⟨r0, r1, r2, r3_, r4_, r5_⟩ := cells5 RR
    have HR := Hid.mk' RR
    have HB := Hid.mk' BB
    clear hW RR BB c0 c1 d0 d1 d2 d3 d4 x0 x1
    by_cases hk2 : K = 2
    · rw [hk2] at r0 KT E
      rw [decide_eq_true (show (2 : Int) = 2 from rfl)] at KT
      by_cases hu : U = x
      all_goals
        go_wp2_with (first | go_big_skip | (go_at_call 113; refine (KT.out _).mono ?_; rintro e w1 ⟨rfl, hb⟩; obtain ⟨s0, s1, s2, s3_, s4_, s5_⟩ := cells5 (rowB HR.out hb); have HB := Hid.mk' (HB.out.trans (hb.mono HB.out.size)); clear hb))
        go_ret
        exact ⟨by rw [E.out]; simp [hu], HB.out⟩
    · rw [decide_eq_false hk2] at KT
      go_wp2_with (first | go_big_skip | (go_at_call 113; refine (KT.out _).mono ?_; rintro e w1 ⟨rfl, hb⟩; have HB := Hid.mk' (HB.out.trans (hb.mono HB.out.size)); clear hb))
      go_ret
      exact ⟨by rw [E.out]; simp [hk2], HB.out⟩

end Go.Proofs.YtpcpnfpnkkjkcaaGreat

/- The program's side of a tree's fault: the next node. -/
namespace Go.Proofs.YtpcpnfpnkkjkcaaGreat
open Go.RowKit
set_option linter.unusedVariables false
set_option linter.unusedSimpArgs false

theorem mark_kind {t : ND} (h : markF t = 0) : kindB t = true := by
  unfold markF at h
  cases e : kindB t
  · rw [e] at h; simp at h
  · rfl

theorem one_mark {l : List ND} {k : Nat} (h : oneF l k = 0) : markF (ndK l k) = 0 := by
  unfold oneF at h
  split at h
  · assumption
  · assumption

theorem mkK_two {t : ND} (h : kindB t = true) : decide (mkK t = 2) = (t.tg.toList == []) := by
  rcases mkK_cases t with ⟨h1, h2⟩ | ⟨h1, h2, h3⟩ | ⟨h1, h2, h3⟩
  · rw [h1] at h; cases h
  · rw [h2, h3]; rfl
  · rw [h2, h3]; rfl

theorem hold_mk {t : ND} (h : kindB t = true) : (decide (mkK t = 1) && !voidB (mkS t)) = holdB t := by
  rcases mkK_cases t with ⟨h1, h2⟩ | ⟨h1, h2, h3⟩ | ⟨h1, h2, h3⟩
  · rw [h1] at h; cases h
  · unfold holdB; rw [h2, h3]; rfl
  · unfold holdB mkS; rw [h2, h3]; rfl

theorem side_last {l : List ND} {k : Nat} (h : kindB (ndK l k) = true) (hz : ∀ j, j < k → oneF l j = 0) : sideB l k = (decide (mkK (ndK l k) = 2) && lastB l k (ndK l k).up) := by
  unfold sideB lastB
  rw [mkK_two h]
  rcases Nat.eq_zero_or_pos k with h0 | h0
  · subst h0; simp
  · rw [decide_eq_true h0, mkK_two (mark_kind (one_mark (hz (k - 1) (by omega))))]
    simp [Bool.and_assoc]

/-- What the place of a node asks, in the program's words. -/
theorem place_mk {l : List ND} {k : Nat} (h : kindB (ndK l k) = true) (hz : ∀ j, j < k → oneF l j = 0) (hd : depU (upF l) k < (wayU (upF l) k).length) :
    placeF l k = if 0 < depU (upF l) k ∧ holdB (ndK l (ndK l k).up.toNat) = false then 1 else if (decide (mkK (ndK l k) = 2) && lastB l k (ndK l k).up) = true then 1 else if 8 ≤ depU (upF l) k then 2 else 0 := by
  have G := (ways_of hz).good
  have e : wv (wayU (upF l) k) (depU (upF l) k) = (ndK l k).up := ixF_at hd
  have i : 0 ≤ (ndK l k).up ↔ 0 < depU (upF l) k := by
    constructor
    · intro h1
      rcases Nat.eq_zero_or_pos (depU (upF l) k) with h0 | h0
      · rw [h0, G.hd] at e; omega
      · exact h0
    · intro h1
      rw [← e]; exact G.pos h1 hd
  unfold placeF
  rw [if_pos hd, side_last h hz]
  by_cases hh : 0 < depU (upF l) k ∧ holdB (ndK l (ndK l k).up.toNat) = false
  · rw [if_pos hh, if_pos ⟨i.2 hh.1, hh.2⟩]
  · rw [if_neg hh, if_neg (fun h => hh ⟨i.1 h.1, h.2⟩)]

set_option maxHeartbeats 8000000 in
theorem faultNext_any (w0 : World) (base g : Nat) (l : List ND) (pa : Nat → Option Addr) (ca : Nat → Nat) (k : Nat) (vn vw : Value) (a : Option Addr) (c : Nat) (w : World) (h : TT w0 base g l pa ca k vn vw w) (hk : k < l.length) (h60 : l.length ≤ 60) (hz : ∀ j, j < k → oneF l j = 0) (ha : AAt w a (ndK l k).at_) (hl : (l.length : Int) + nssz l ≤ 1048576) :
    Calls Tryz.prog 94 #[.pointer (some ⟨g, 0, none⟩), .agg #[.int .i64 (mkK (ndK l k)), .string (mkS (ndK l k)), mkV (ndK l k) (.slice a (ndK l k).at_.length c), .int .i64 (ndK l k).up, .int .i64 (ixI (wayU (upF l) k) (ndK l k).up)]] w fun e w' => e = .returned (.int .i64 (oneF l k)) ∧ Below w.heap.size w w' := by
  have hsz := nssz_at hk
  obtain ⟨p9, n9, c9, hV⟩ : ∃ p n c', mkV (ndK l k) (.slice a (ndK l k).at_.length c) = .slice p n c' := by unfold mkV; split <;> exact ⟨_, _, _, rfl⟩
  have N0 := below_new w (.cells #[.int .i64 (mkK (ndK l k)), .string (mkS (ndK l k)), .slice p9 n9 c9, .int .i64 (ndK l k).up, .int .i64 (ixI (wayU (upF l) k) (ndK l k).up)] 139)
  have KF := fault_any (ndK l k) a c _ (ha.below N0) (by omega)
  rw [hV] at KF
  rw [hV]
  have KF := Hid.mk' KF
  have HT := Hid.mk' (h.below N0)
  have HP := Hid.mk' (row5 w 139 (.int .i64 (mkK (ndK l k))) (.string (mkS (ndK l k))) (.slice p9 n9 c9) (.int .i64 (ndK l k).up) (.int .i64 (ixI (wayU (upF l) k) (ndK l k).up)))
  have HB := Hid.mk' N0
  clear h N0 ha hV
  generalize hW : w.alloc (.cells #[.int .i64 (mkK (ndK l k)), .string (mkS (ndK l k)), .slice p9 n9 c9, .int .i64 (ndK l k).up, .int .i64 (ixI (wayU (upF l) k) (ndK l k).up)] 139) = W at *
  obtain ⟨p0, p1, p2_, p3, p4, p5⟩ := cells5 HP.out
  by_cases hm : markF (ndK l k) = 0
  rotate_left
  · have E : Hid (oneF l k = markF (ndK l k)) := Hid.mk' (oneF_mark rfl hm)
    generalize markF (ndK l k) = f at *
    go_enter Tryz.func94, Tryz.ntmps94
    go_wp2_with fail
    clear hW
    refine KF.out.mono ?_
    rintro e w1 ⟨rfl, hb⟩
    have HB := Hid.mk' (HB.out.trans (hb.mono HB.out.size))
    clear hb KF
    go_wp2
    go_ret
    exact ⟨by rw [E.out]; rfl, HB.out⟩
  have hkd := mark_kind hm
  have E0 : oneF l k = placeF l k := oneF_place hm
  rw [hm] at KF
  by_cases hd : depU (upF l) k < (wayU (upF l) k).length
  rotate_left
  · have E : Hid (oneF l k = 3) := Hid.mk' (by rw [E0]; unfold placeF; rw [if_neg hd])
    have ed : ixI (wayU (upF l) k) (ndK l k).up = -1 := by unfold ixI; exact if_neg hd
    rw [ed] at p4
    rw [ed] at hW
    rw [ed] at HP
    rw [ed]
    clear E0 hd ed
    go_enter Tryz.func94, Tryz.ntmps94
    go_wp2_with fail
    clear hW
    refine KF.out.mono ?_
    rintro e w1 ⟨rfl, hb⟩
    obtain ⟨q0, q1, q2, q3, q4, q5⟩ := cells5 (rowB HP.out hb)
    have HB := Hid.mk' (HB.out.trans (hb.mono HB.out.size))
    clear hb KF
    go_wp2
    go_ret
    exact ⟨by rw [E.out]; rfl, HB.out⟩
  have ed : ixI (wayU (upF l) k) (ndK l k).up = (depU (upF l) k : Int) := by unfold ixI; exact if_pos hd
  have hub : 0 < depU (upF l) k → 0 ≤ (ndK l k).up ∧ (ndK l k).up < k := fun h0 => by
    have G := (ways_of hz).good
    have e : wv (wayU (upF l) k) (depU (upF l) k) = (ndK l k).up := ixF_at hd
    rw [← e]; exact ⟨G.pos h0 hd, G.hi hd⟩
  rw [place_mk hkd hz hd] at E0
  have HZ := Hid.mk' hz
  rw [ed] at p4
  rw [ed] at hW
  rw [ed] at HP
  rw [ed]
  clear hd ed hz
  obtain ⟨q, hq⟩ : ∃ q, depU (upF l) k = q := ⟨_, rfl⟩
  obtain ⟨K, hK⟩ : ∃ K, mkK (ndK l k) = K := ⟨_, rfl⟩
  obtain ⟨S, hS⟩ : ∃ S, mkS (ndK l k) = S := ⟨_, rfl⟩
  obtain ⟨U, hU⟩ : ∃ U, (ndK l k).up = U := ⟨_, rfl⟩
  rw [hq, hK, hU] at E0
  rw [hq, hU] at hub
  rw [hq, hU, hK, hS] at HP hW ⊢
  rw [hq] at p4
  rw [hU] at p3
  rw [hK, hS] at KF
  rw [hK] at p0
  rw [hS] at p1
  have KT : Hid (∀ w', Calls Tryz.prog 113 #[.agg #[.int .i64 K, .string S, .slice p9 n9 c9]] w' fun e w'' => e = .returned (.bool (decide (K = 2))) ∧ Below w'.heap.size w' w'') := fun w' => isText_any K S _ w'
  have KL : Hid (∀ w', Below W.heap.size W w' → Calls Tryz.prog 114 #[.pointer (some ⟨g, 0, none⟩), .int .i64 U] w' fun e w'' => e = .returned (.bool (lastB l k U)) ∧ Below w'.heap.size w' w'') := fun w' hb => endsText_any w0 base g l pa ca k vn vw U w' (HT.out.below hb) (by omega)
  clear hq hK hS hU hkd hm hsz
  rcases Nat.eq_zero_or_pos q with h0 | h0
  · subst h0
    rw [if_neg (fun h => absurd h.1 (Nat.lt_irrefl _)), if_neg (show ¬ 8 ≤ 0 by omega)] at E0
    rw [show ((0 : Nat) : Int) = 0 from rfl] at hW HP p4 ⊢
    clear hub
    by_cases k2 : K = 2
    · rw [decide_eq_true k2, Bool.true_and] at E0
      rw [k2] at KT p0 HP hW KF ⊢
      rw [decide_eq_true (show (2 : Int) = 2 from rfl)] at KT
      cases hL : lastB l k U with
      | true =>
        rw [hL] at KL E0
        rw [if_pos rfl] at E0
        have E := Hid.mk' E0
        clear E0
        go_enter Tryz.func94, Tryz.ntmps94
        go_wp2_with fail
        clear hW
        refine KF.out.mono ?_
        rintro e w1 ⟨rfl, hb⟩
        obtain ⟨q0, q1, q2, q3, q4, q5⟩ := cells5 (rowB HP.out hb)
        have HC := Hid.mk' hb
        clear hb KF p0 p1 p2_ p3 p4 p5
        go_wp2_with fail
        go_quiet (fail)
        have HC := Hid.mk' (below_drewN HC.out nq)
        go_wp2_with (first | go_big_skip | (go_at_call 113; refine (KT.out _).mono ?_; rintro e w2 ⟨rfl, hb⟩; have HC := Hid.mk' (HC.out.trans (hb.mono HC.out.size)); obtain ⟨s0, s1, s2, s3, s4, s5⟩ := cells5 (rowB HP.out HC.out); clear hb) | (go_at_call 114; refine (KL.out _ HC.out).mono ?_; rintro e w3 ⟨rfl, hb⟩; have HC := Hid.mk' (HC.out.trans (hb.mono HC.out.size)); obtain ⟨s0, s1, s2, s3, s4, s5⟩ := cells5 (rowB HP.out HC.out); clear hb))
        go_ret
        exact ⟨by rw [E.out]; rfl, HB.out.trans (HC.out.mono HB.out.size)⟩
      | false =>
        rw [hL] at KL E0
        rw [if_neg (by decide)] at E0
        have E := Hid.mk' E0
        clear E0
        go_enter Tryz.func94, Tryz.ntmps94
        go_wp2_with fail
        clear hW
        refine KF.out.mono ?_
        rintro e w1 ⟨rfl, hb⟩
        obtain ⟨q0, q1, q2, q3, q4, q5⟩ := cells5 (rowB HP.out hb)
        have HC := Hid.mk' hb
        clear hb KF p0 p1 p2_ p3 p4 p5
        go_wp2_with fail
        go_quiet (fail)
        have HC := Hid.mk' (below_drewN HC.out nq)
        go_wp2_with (first | go_big_skip | (go_at_call 113; refine (KT.out _).mono ?_; rintro e w2 ⟨rfl, hb⟩; have HC := Hid.mk' (HC.out.trans (hb.mono HC.out.size)); obtain ⟨s0, s1, s2, s3, s4, s5⟩ := cells5 (rowB HP.out HC.out); clear hb) | (go_at_call 114; refine (KL.out _ HC.out).mono ?_; rintro e w3 ⟨rfl, hb⟩; have HC := Hid.mk' (HC.out.trans (hb.mono HC.out.size)); obtain ⟨s0, s1, s2, s3, s4, s5⟩ := cells5 (rowB HP.out HC.out); clear hb))
        go_ret
        exact ⟨by rw [E.out]; rfl, HB.out.trans (HC.out.mono HB.out.size)⟩
    · rw [decide_eq_false k2, Bool.false_and, if_neg (by decide)] at E0
      rw [decide_eq_false k2] at KT
      have E := Hid.mk' E0
      clear E0
      go_enter Tryz.func94, Tryz.ntmps94
      go_wp2_with fail
      clear hW
      refine KF.out.mono ?_
      rintro e w1 ⟨rfl, hb⟩
      obtain ⟨q0, q1, q2, q3, q4, q5⟩ := cells5 (rowB HP.out hb)
      have HC := Hid.mk' hb
      clear hb KF p0 p1 p2_ p3 p4 p5
      go_wp2_with fail
      go_quiet (fail)
      have HC := Hid.mk' (below_drewN HC.out nq)
      go_wp2_with (first | go_big_skip | (go_at_call 113; refine (KT.out _).mono ?_; rintro e w2 ⟨rfl, hb⟩; have HC := Hid.mk' (HC.out.trans (hb.mono HC.out.size)); obtain ⟨s0, s1, s2, s3, s4, s5⟩ := cells5 (rowB HP.out HC.out); clear hb) | (go_at_call 114; refine (KL.out _ HC.out).mono ?_; rintro e w3 ⟨rfl, hb⟩; have HC := Hid.mk' (HC.out.trans (hb.mono HC.out.size)); obtain ⟨s0, s1, s2, s3, s4, s5⟩ := cells5 (rowB HP.out HC.out); clear hb))
      go_ret
      exact ⟨by rw [E.out]; rfl, HB.out.trans (HC.out.mono HB.out.size)⟩
  · obtain ⟨u0, u1⟩ := hub h0
    obtain ⟨m, rfl⟩ : ∃ m : Nat, U = (m : Int) := ⟨U.toNat, by omega⟩
    rw [Int.toNat_natCast] at E0
    have HM := Hid.mk' (hold_mk (mark_kind (one_mark (HZ.out m (by omega)))))
    have KH : Hid (∀ v w', Calls Tryz.prog 97 #[.agg #[.int .i64 (mkK (ndK l m)), .string (mkS (ndK l m)), v]] w' fun e w'' => e = .returned (.bool (holdB (ndK l m))) ∧ Below w'.heap.size w' w'') := fun v w' => by have := mayHold_any (mkK (ndK l m)) (mkS (ndK l m)) v w'; rw [HM.out] at this; exact this
    have hmk : (m : Int) < (k : Int) := u1
    have HN : Hid (∀ w', Below W.heap.size W w' → ∃ b cap p n c', vn = .slice (some ⟨b, 0, none⟩) k cap ∧ w'.cell? ⟨g, 0, none⟩ = some (.slice (some ⟨b, 0, none⟩) k cap) ∧ w'.cell? ⟨b, m * 5, none⟩ = some (.int .i64 (mkK (ndK l m))) ∧ w'.cell? ⟨b, m * 5 + 1, none⟩ = some (.string (mkS (ndK l m))) ∧ w'.cell? ⟨b, m * 5 + 2, none⟩ = some (.slice p n c') ∧ w'.cell? ⟨b, m * 5 + 3, none⟩ = some (.int .i64 (ndK l m).up) ∧ w'.cell? ⟨b, m * 5 + 4, none⟩ = some (.int .i64 (depU (upF l) m : Int))) := fun w' hb => by
      have hT := HT.out.below hb
      obtain ⟨b, cap, e, _, _, h3⟩ := hT.node (by omega)
      obtain ⟨d0, d1, d2, d3, d4⟩ := h3 m (by omega)
      obtain ⟨p, n, c', e2⟩ := mkV_slice (ndK l m) l pa ca m
      refine ⟨b, cap, p, n, c', e, ?_, d0, d1, by rw [d2, e2], d3, d4⟩
      rw [← e]; exact (cells2 hT.box).1
    have dn : ¬ (q : Int) < 0 := by omega
    cases hh : holdB (ndK l m) with
    | false =>
      rw [hh] at KH E0
      rw [if_pos ⟨h0, rfl⟩] at E0
      have E := Hid.mk' E0
      clear E0 HM
      go_enter Tryz.func94, Tryz.ntmps94
      go_wp2_with fail
      clear hW
      refine KF.out.mono ?_
      rintro e w1 ⟨rfl, hb⟩
      obtain ⟨q0, q1, q2, q3, q4, q5⟩ := cells5 (rowB HP.out hb)
      obtain ⟨nb, ncap, np, nn, nc, _, m0, m1, m2, m3, m4, m5⟩ := HN.out w1 hb
      have mg : g < w1.heap.size := World.block_lt_of_cell? w1 ⟨g, 0, none⟩ m0
      have mb' : nb < w1.heap.size := World.block_lt_of_cell? w1 ⟨nb, m * 5, none⟩ m1
      have HC := Hid.mk' hb
      clear hb KF p0 p1 p2_ p3 p4 p5
      go_wp2_with fail
      go_region_held3 (fun w' => w'.cell? ⟨g, 0, none⟩ = some (.slice (some ⟨nb, 0, none⟩) k ncap) ∧ w'.cell? ⟨nb, m * 5, none⟩ = some (.int .i64 (mkK (ndK l m))) ∧ w'.cell? ⟨nb, m * 5 + 1, none⟩ = some (.string (mkS (ndK l m))) ∧ w'.cell? ⟨nb, m * 5 + 2, none⟩ = some (.slice np nn nc) ∧ w'.cell? ⟨w.heap.size, 3, none⟩ = some (.int .i64 (m : Int)) ∧ w'.cell? ⟨w.heap.size, 4, none⟩ = some (.int .i64 (q : Int))) (simp [*]) ((go_at_call 97; refine (KH.out _ _).mono ?_; rintro e w4 ⟨rfl, hb⟩; replace hb := undrew hb; obtain ⟨hx, hy⟩ := bcell hb; have HC := Hid.mk' (HC.out.trans (hb.mono HC.out.size)); clear hb))
      obtain ⟨s0, s1, s2, s3, s4, s5⟩ := cells5 (rowB HP.out HC.out)
      go_wp2_with (first | go_big_skip | (go_at_call 113; refine (KT.out _).mono ?_; rintro e w2 ⟨rfl, hb⟩; have HC := Hid.mk' (HC.out.trans (hb.mono HC.out.size)); obtain ⟨s0, s1, s2, s3, s4, s5⟩ := cells5 (rowB HP.out HC.out); clear hb) | (go_at_call 114; refine (KL.out _ HC.out).mono ?_; rintro e w3 ⟨rfl, hb⟩; have HC := Hid.mk' (HC.out.trans (hb.mono HC.out.size)); obtain ⟨s0, s1, s2, s3, s4, s5⟩ := cells5 (rowB HP.out HC.out); clear hb) | (go_at_call 97; refine (KH.out _ _).mono ?_; rintro e w4 ⟨rfl, hb⟩; have HC := Hid.mk' (HC.out.trans (hb.mono HC.out.size)); obtain ⟨s0, s1, s2, s3, s4, s5⟩ := cells5 (rowB HP.out HC.out); clear hb))
      go_ret
      exact ⟨by rw [E.out]; rfl, HB.out.trans (HC.out.mono HB.out.size)⟩
    | true =>
      rw [hh] at KH E0
      rw [if_neg (fun h => absurd h.2 (by decide))] at E0
      clear HM
      by_cases k2 : K = 2
      · rw [decide_eq_true k2, Bool.true_and] at E0
        rw [k2] at KT p0 HP hW KF ⊢
        rw [decide_eq_true (show (2 : Int) = 2 from rfl)] at KT
        cases hL : lastB l k (m : Int) with
        | true =>
          rw [hL] at KL E0
          rw [if_pos rfl] at E0
          have E := Hid.mk' E0
          clear E0
          go_enter Tryz.func94, Tryz.ntmps94
          go_wp2_with fail
          clear hW
          refine KF.out.mono ?_
          rintro e w1 ⟨rfl, hb⟩
          obtain ⟨q0, q1, q2, q3, q4, q5⟩ := cells5 (rowB HP.out hb)
          obtain ⟨nb, ncap, np, nn, nc, _, m0, m1, m2, m3, m4, m5⟩ := HN.out w1 hb
          have mg : g < w1.heap.size := World.block_lt_of_cell? w1 ⟨g, 0, none⟩ m0
          have mb' : nb < w1.heap.size := World.block_lt_of_cell? w1 ⟨nb, m * 5, none⟩ m1
          have HC := Hid.mk' hb
          clear hb KF p0 p1 p2_ p3 p4 p5
          go_wp2_with fail
          go_region_held3 (fun w' => w'.cell? ⟨g, 0, none⟩ = some (.slice (some ⟨nb, 0, none⟩) k ncap) ∧ w'.cell? ⟨nb, m * 5, none⟩ = some (.int .i64 (mkK (ndK l m))) ∧ w'.cell? ⟨nb, m * 5 + 1, none⟩ = some (.string (mkS (ndK l m))) ∧ w'.cell? ⟨nb, m * 5 + 2, none⟩ = some (.slice np nn nc) ∧ w'.cell? ⟨w.heap.size, 3, none⟩ = some (.int .i64 (m : Int)) ∧ w'.cell? ⟨w.heap.size, 4, none⟩ = some (.int .i64 (q : Int))) (simp [*]) ((go_at_call 97; refine (KH.out _ _).mono ?_; rintro e w4 ⟨rfl, hb⟩; replace hb := undrew hb; obtain ⟨hx, hy⟩ := bcell hb; have HC := Hid.mk' (HC.out.trans (hb.mono HC.out.size)); clear hb))
          obtain ⟨s0, s1, s2, s3, s4, s5⟩ := cells5 (rowB HP.out HC.out)
          go_wp2_with (first | go_big_skip | (go_at_call 113; refine (KT.out _).mono ?_; rintro e w2 ⟨rfl, hb⟩; have HC := Hid.mk' (HC.out.trans (hb.mono HC.out.size)); obtain ⟨s0, s1, s2, s3, s4, s5⟩ := cells5 (rowB HP.out HC.out); clear hb) | (go_at_call 114; refine (KL.out _ HC.out).mono ?_; rintro e w3 ⟨rfl, hb⟩; have HC := Hid.mk' (HC.out.trans (hb.mono HC.out.size)); obtain ⟨s0, s1, s2, s3, s4, s5⟩ := cells5 (rowB HP.out HC.out); clear hb) | (go_at_call 97; refine (KH.out _ _).mono ?_; rintro e w4 ⟨rfl, hb⟩; have HC := Hid.mk' (HC.out.trans (hb.mono HC.out.size)); obtain ⟨s0, s1, s2, s3, s4, s5⟩ := cells5 (rowB HP.out HC.out); clear hb))
          go_ret
          exact ⟨by rw [E.out]; rfl, HB.out.trans (HC.out.mono HB.out.size)⟩
        | false =>
          rw [hL] at KL E0
          rw [if_neg (by decide)] at E0
          by_cases q8 : (q : Int) ≥ 8
          · rw [if_pos (by omega)] at E0
            have E := Hid.mk' E0
            clear E0
            go_enter Tryz.func94, Tryz.ntmps94
            go_wp2_with fail
            clear hW
            refine KF.out.mono ?_
            rintro e w1 ⟨rfl, hb⟩
            obtain ⟨q0, q1, q2, q3, q4, q5⟩ := cells5 (rowB HP.out hb)
            obtain ⟨nb, ncap, np, nn, nc, _, m0, m1, m2, m3, m4, m5⟩ := HN.out w1 hb
            have mg : g < w1.heap.size := World.block_lt_of_cell? w1 ⟨g, 0, none⟩ m0
            have mb' : nb < w1.heap.size := World.block_lt_of_cell? w1 ⟨nb, m * 5, none⟩ m1
            have HC := Hid.mk' hb
            clear hb KF p0 p1 p2_ p3 p4 p5
            go_wp2_with fail
            go_region_held3 (fun w' => w'.cell? ⟨g, 0, none⟩ = some (.slice (some ⟨nb, 0, none⟩) k ncap) ∧ w'.cell? ⟨nb, m * 5, none⟩ = some (.int .i64 (mkK (ndK l m))) ∧ w'.cell? ⟨nb, m * 5 + 1, none⟩ = some (.string (mkS (ndK l m))) ∧ w'.cell? ⟨nb, m * 5 + 2, none⟩ = some (.slice np nn nc) ∧ w'.cell? ⟨w.heap.size, 3, none⟩ = some (.int .i64 (m : Int)) ∧ w'.cell? ⟨w.heap.size, 4, none⟩ = some (.int .i64 (q : Int))) (simp [*]) ((go_at_call 97; refine (KH.out _ _).mono ?_; rintro e w4 ⟨rfl, hb⟩; replace hb := undrew hb; obtain ⟨hx, hy⟩ := bcell hb; have HC := Hid.mk' (HC.out.trans (hb.mono HC.out.size)); clear hb))
            obtain ⟨s0, s1, s2, s3, s4, s5⟩ := cells5 (rowB HP.out HC.out)
            go_wp2_with (first | go_big_skip | (go_at_call 113; refine (KT.out _).mono ?_; rintro e w2 ⟨rfl, hb⟩; have HC := Hid.mk' (HC.out.trans (hb.mono HC.out.size)); obtain ⟨s0, s1, s2, s3, s4, s5⟩ := cells5 (rowB HP.out HC.out); clear hb) | (go_at_call 114; refine (KL.out _ HC.out).mono ?_; rintro e w3 ⟨rfl, hb⟩; have HC := Hid.mk' (HC.out.trans (hb.mono HC.out.size)); obtain ⟨s0, s1, s2, s3, s4, s5⟩ := cells5 (rowB HP.out HC.out); clear hb) | (go_at_call 97; refine (KH.out _ _).mono ?_; rintro e w4 ⟨rfl, hb⟩; have HC := Hid.mk' (HC.out.trans (hb.mono HC.out.size)); obtain ⟨s0, s1, s2, s3, s4, s5⟩ := cells5 (rowB HP.out HC.out); clear hb))
            go_ret
            exact ⟨by rw [E.out]; rfl, HB.out.trans (HC.out.mono HB.out.size)⟩
          · rw [if_neg (by omega)] at E0
            have E := Hid.mk' E0
            clear E0
            go_enter Tryz.func94, Tryz.ntmps94
            go_wp2_with fail
            clear hW
            refine KF.out.mono ?_
            rintro e w1 ⟨rfl, hb⟩
            obtain ⟨q0, q1, q2, q3, q4, q5⟩ := cells5 (rowB HP.out hb)
            obtain ⟨nb, ncap, np, nn, nc, _, m0, m1, m2, m3, m4, m5⟩ := HN.out w1 hb
            have mg : g < w1.heap.size := World.block_lt_of_cell? w1 ⟨g, 0, none⟩ m0
            have mb' : nb < w1.heap.size := World.block_lt_of_cell? w1 ⟨nb, m * 5, none⟩ m1
            have HC := Hid.mk' hb
            clear hb KF p0 p1 p2_ p3 p4 p5
            go_wp2_with fail
            go_region_held3 (fun w' => w'.cell? ⟨g, 0, none⟩ = some (.slice (some ⟨nb, 0, none⟩) k ncap) ∧ w'.cell? ⟨nb, m * 5, none⟩ = some (.int .i64 (mkK (ndK l m))) ∧ w'.cell? ⟨nb, m * 5 + 1, none⟩ = some (.string (mkS (ndK l m))) ∧ w'.cell? ⟨nb, m * 5 + 2, none⟩ = some (.slice np nn nc) ∧ w'.cell? ⟨w.heap.size, 3, none⟩ = some (.int .i64 (m : Int)) ∧ w'.cell? ⟨w.heap.size, 4, none⟩ = some (.int .i64 (q : Int))) (simp [*]) ((go_at_call 97; refine (KH.out _ _).mono ?_; rintro e w4 ⟨rfl, hb⟩; replace hb := undrew hb; obtain ⟨hx, hy⟩ := bcell hb; have HC := Hid.mk' (HC.out.trans (hb.mono HC.out.size)); clear hb))
            obtain ⟨s0, s1, s2, s3, s4, s5⟩ := cells5 (rowB HP.out HC.out)
            go_wp2_with (first | go_big_skip | (go_at_call 113; refine (KT.out _).mono ?_; rintro e w2 ⟨rfl, hb⟩; have HC := Hid.mk' (HC.out.trans (hb.mono HC.out.size)); obtain ⟨s0, s1, s2, s3, s4, s5⟩ := cells5 (rowB HP.out HC.out); clear hb) | (go_at_call 114; refine (KL.out _ HC.out).mono ?_; rintro e w3 ⟨rfl, hb⟩; have HC := Hid.mk' (HC.out.trans (hb.mono HC.out.size)); obtain ⟨s0, s1, s2, s3, s4, s5⟩ := cells5 (rowB HP.out HC.out); clear hb) | (go_at_call 97; refine (KH.out _ _).mono ?_; rintro e w4 ⟨rfl, hb⟩; have HC := Hid.mk' (HC.out.trans (hb.mono HC.out.size)); obtain ⟨s0, s1, s2, s3, s4, s5⟩ := cells5 (rowB HP.out HC.out); clear hb))
            go_ret
            exact ⟨by rw [E.out]; rfl, HB.out.trans (HC.out.mono HB.out.size)⟩
      · rw [decide_eq_false k2, Bool.false_and, if_neg (by decide)] at E0
        rw [decide_eq_false k2] at KT
        by_cases q8 : (q : Int) ≥ 8
        · rw [if_pos (by omega)] at E0
          have E := Hid.mk' E0
          clear E0
          go_enter Tryz.func94, Tryz.ntmps94
          go_wp2_with fail
          clear hW
          refine KF.out.mono ?_
          rintro e w1 ⟨rfl, hb⟩
          obtain ⟨q0, q1, q2, q3, q4, q5⟩ := cells5 (rowB HP.out hb)
          obtain ⟨nb, ncap, np, nn, nc, _, m0, m1, m2, m3, m4, m5⟩ := HN.out w1 hb
          have mg : g < w1.heap.size := World.block_lt_of_cell? w1 ⟨g, 0, none⟩ m0
          have mb' : nb < w1.heap.size := World.block_lt_of_cell? w1 ⟨nb, m * 5, none⟩ m1
          have HC := Hid.mk' hb
          clear hb KF p0 p1 p2_ p3 p4 p5
          go_wp2_with fail
          go_region_held3 (fun w' => w'.cell? ⟨g, 0, none⟩ = some (.slice (some ⟨nb, 0, none⟩) k ncap) ∧ w'.cell? ⟨nb, m * 5, none⟩ = some (.int .i64 (mkK (ndK l m))) ∧ w'.cell? ⟨nb, m * 5 + 1, none⟩ = some (.string (mkS (ndK l m))) ∧ w'.cell? ⟨nb, m * 5 + 2, none⟩ = some (.slice np nn nc) ∧ w'.cell? ⟨w.heap.size, 3, none⟩ = some (.int .i64 (m : Int)) ∧ w'.cell? ⟨w.heap.size, 4, none⟩ = some (.int .i64 (q : Int))) (simp [*]) ((go_at_call 97; refine (KH.out _ _).mono ?_; rintro e w4 ⟨rfl, hb⟩; replace hb := undrew hb; obtain ⟨hx, hy⟩ := bcell hb; have HC := Hid.mk' (HC.out.trans (hb.mono HC.out.size)); clear hb))
          obtain ⟨s0, s1, s2, s3, s4, s5⟩ := cells5 (rowB HP.out HC.out)
          go_wp2_with (first | go_big_skip | (go_at_call 113; refine (KT.out _).mono ?_; rintro e w2 ⟨rfl, hb⟩; have HC := Hid.mk' (HC.out.trans (hb.mono HC.out.size)); obtain ⟨s0, s1, s2, s3, s4, s5⟩ := cells5 (rowB HP.out HC.out); clear hb) | (go_at_call 114; refine (KL.out _ HC.out).mono ?_; rintro e w3 ⟨rfl, hb⟩; have HC := Hid.mk' (HC.out.trans (hb.mono HC.out.size)); obtain ⟨s0, s1, s2, s3, s4, s5⟩ := cells5 (rowB HP.out HC.out); clear hb) | (go_at_call 97; refine (KH.out _ _).mono ?_; rintro e w4 ⟨rfl, hb⟩; have HC := Hid.mk' (HC.out.trans (hb.mono HC.out.size)); obtain ⟨s0, s1, s2, s3, s4, s5⟩ := cells5 (rowB HP.out HC.out); clear hb))
          go_ret
          exact ⟨by rw [E.out]; rfl, HB.out.trans (HC.out.mono HB.out.size)⟩
        · rw [if_neg (by omega)] at E0
          have E := Hid.mk' E0
          clear E0
          go_enter Tryz.func94, Tryz.ntmps94
          go_wp2_with fail
          clear hW
          refine KF.out.mono ?_
          rintro e w1 ⟨rfl, hb⟩
          obtain ⟨q0, q1, q2, q3, q4, q5⟩ := cells5 (rowB HP.out hb)
          obtain ⟨nb, ncap, np, nn, nc, _, m0, m1, m2, m3, m4, m5⟩ := HN.out w1 hb
          have mg : g < w1.heap.size := World.block_lt_of_cell? w1 ⟨g, 0, none⟩ m0
          have mb' : nb < w1.heap.size := World.block_lt_of_cell? w1 ⟨nb, m * 5, none⟩ m1
          have HC := Hid.mk' hb
          clear hb KF p0 p1 p2_ p3 p4 p5
          go_wp2_with fail
          go_region_held3 (fun w' => w'.cell? ⟨g, 0, none⟩ = some (.slice (some ⟨nb, 0, none⟩) k ncap) ∧ w'.cell? ⟨nb, m * 5, none⟩ = some (.int .i64 (mkK (ndK l m))) ∧ w'.cell? ⟨nb, m * 5 + 1, none⟩ = some (.string (mkS (ndK l m))) ∧ w'.cell? ⟨nb, m * 5 + 2, none⟩ = some (.slice np nn nc) ∧ w'.cell? ⟨w.heap.size, 3, none⟩ = some (.int .i64 (m : Int)) ∧ w'.cell? ⟨w.heap.size, 4, none⟩ = some (.int .i64 (q : Int))) (simp [*]) ((go_at_call 97; refine (KH.out _ _).mono ?_; rintro e w4 ⟨rfl, hb⟩; replace hb := undrew hb; obtain ⟨hx, hy⟩ := bcell hb; have HC := Hid.mk' (HC.out.trans (hb.mono HC.out.size)); clear hb))
          obtain ⟨s0, s1, s2, s3, s4, s5⟩ := cells5 (rowB HP.out HC.out)
          go_wp2_with (first | go_big_skip | (go_at_call 113; refine (KT.out _).mono ?_; rintro e w2 ⟨rfl, hb⟩; have HC := Hid.mk' (HC.out.trans (hb.mono HC.out.size)); obtain ⟨s0, s1, s2, s3, s4, s5⟩ := cells5 (rowB HP.out HC.out); clear hb) | (go_at_call 114; refine (KL.out _ HC.out).mono ?_; rintro e w3 ⟨rfl, hb⟩; have HC := Hid.mk' (HC.out.trans (hb.mono HC.out.size)); obtain ⟨s0, s1, s2, s3, s4, s5⟩ := cells5 (rowB HP.out HC.out); clear hb) | (go_at_call 97; refine (KH.out _ _).mono ?_; rintro e w4 ⟨rfl, hb⟩; have HC := Hid.mk' (HC.out.trans (hb.mono HC.out.size)); obtain ⟨s0, s1, s2, s3, s4, s5⟩ := cells5 (rowB HP.out HC.out); clear hb))
          go_ret
          exact ⟨by rw [E.out]; rfl, HB.out.trans (HC.out.mono HB.out.size)⟩

end Go.Proofs.YtpcpnfpnkkjkcaaGreat
