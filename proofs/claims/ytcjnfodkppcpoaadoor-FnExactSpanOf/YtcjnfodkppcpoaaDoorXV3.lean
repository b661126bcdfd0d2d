/- Ways: the places that a place is in, the outermost first. -/
import Derived.WalkKit
import Derived.Test.YtcjnfodkppcpoaaDoorXWa
import Derived.Test.YtcjnfodkppcpoaaDoorXV2
import Derived.BigGuard
namespace Go.Proofs.YtcjnfodkppcpoaaDoor
set_option linter.unusedVariables false

/-- The i-th of numbers. -/
def wv (l : List Int) (i : Nat) : Int := l.getD i 0

theorem wv_get {l : List Int} {i : Nat} (h : i < l.length) : l[i]? = some (wv l i) := by simp [wv, h]
theorem wv_take {l : List Int} {i n : Nat} (h : i < n) : wv (l.take n) i = wv l i := by
  unfold wv
  rw [List.getD_eq_getElem?_getD, List.getD_eq_getElem?_getD, List.getElem?_take_of_lt h]
theorem wv_left {l m : List Int} {i : Nat} (h : i < l.length) : wv (l ++ m) i = wv l i := by
  unfold wv
  rw [List.getD_eq_getElem?_getD, List.getD_eq_getElem?_getD, List.getElem?_append_left h]
theorem wv_end {l : List Int} {x : Int} : wv (l ++ [x]) l.length = x := by simp [wv]

/-- Where a number stands; their number, if nowhere. -/
def ixF : List Int → Int → Nat
  | [], _ => 0
  | x :: r, y => if x = y then 0 else ixF r y + 1

theorem ixF_le (l : List Int) (y : Int) : ixF l y ≤ l.length := by
  induction l with
  | nil => simp [ixF]
  | cons x r ih => unfold ixF; split <;> simp <;> omega

theorem ixF_at {l : List Int} {y : Int} (h : ixF l y < l.length) : wv l (ixF l y) = y := by
  induction l with
  | nil => simp at h
  | cons x r ih =>
    unfold ixF at h ⊢
    by_cases e : x = y
    · rw [if_pos e]; exact e
    · rw [if_neg e] at h ⊢
      have := ih (by simpa using h)
      unfold wv at this ⊢
      simpa using this

theorem ixF_found : ∀ (l : List Int) (y : Int) (k : Nat), k < l.length → (∀ j, j < k → ¬ wv l j = y) → wv l k = y → ixF l y = k
  | [], _, _, h, _, _ => absurd h (Nat.not_lt_zero _)
  | x :: r, y, 0, _, _, e => by
    have : x = y := e
    unfold ixF; rw [if_pos this]
  | x :: r, y, k + 1, h, hn, e => by
    have h0 : ¬ x = y := hn 0 (by omega)
    have := ixF_found r y k (by simpa using h) (fun j hj => by have := hn (j + 1) (by omega); simpa [wv] using this) (by simpa [wv] using e)
    unfold ixF; rw [if_neg h0, this]

theorem ixF_none : ∀ (l : List Int) (y : Int), (∀ j, j < l.length → ¬ wv l j = y) → ixF l y = l.length
  | [], _, _ => rfl
  | x :: r, y, hn => by
    have h0 : ¬ x = y := hn 0 (by simp)
    have := ixF_none r y (fun j hj => by have := hn (j + 1) (by simpa using hj); simpa [wv] using this)
    unfold ixF; rw [if_neg h0, this]; rfl

/-- The way to the k-th: -1, all that the one ahead is in, and that one. -/
def wayU (u : Nat → Int) : Nat → List Int
  | 0 => [-1]
  | k + 1 => (wayU u k).take (ixF (wayU u k) (u k) + 1) ++ [(k : Int)]

/-- How many the k-th is in. -/
def depU (u : Nat → Int) (k : Nat) : Nat := ixF (wayU u k) (u k)

/-- A way that goes up step by step. -/
structure GoodW (u : Nat → Int) (k : Nat) (l : List Int) : Prop where
  ne : 0 < l.length
  le : l.length ≤ k + 1
  hd : wv l 0 = -1
  last : wv l (l.length - 1) = (k : Int) - 1
  ch : ∀ i, i + 1 < l.length → 0 ≤ wv l (i + 1) ∧ wv l i = u (wv l (i + 1)).toNat ∧ wv l i < wv l (i + 1)

theorem GoodW.mono {u : Nat → Int} {k : Nat} {l : List Int} (h : GoodW u k l) {i : Nat} : ∀ {j}, i < j → j < l.length → wv l i < wv l j
  | 0, hi, _ => absurd hi (Nat.not_lt_zero _)
  | j + 1, hi, hj => by
    have h1 := (h.ch j hj).2.2
    by_cases e : i = j
    · subst e; exact h1
    · have := h.mono (i := i) (j := j) (by omega) (by omega)
      omega

theorem GoodW.lo {u : Nat → Int} {k : Nat} {l : List Int} (h : GoodW u k l) {i : Nat} (hi : i < l.length) : -1 ≤ wv l i := by
  by_cases e : i = 0
  · subst e; rw [h.hd]; omega
  · have := h.mono (i := 0) (j := i) (by omega) hi
    rw [h.hd] at this; omega

theorem GoodW.pos {u : Nat → Int} {k : Nat} {l : List Int} (h : GoodW u k l) {i : Nat} (h0 : 0 < i) (hi : i < l.length) : 0 ≤ wv l i := by
  have := h.mono (i := 0) (j := i) h0 hi
  rw [h.hd] at this; omega

theorem GoodW.hi {u : Nat → Int} {k : Nat} {l : List Int} (h : GoodW u k l) {i : Nat} (hi : i < l.length) : wv l i < k := by
  by_cases e : i = l.length - 1
  · subst e; rw [h.last]; omega
  · have := h.mono (i := i) (j := l.length - 1) (by omega) (by omega)
    rw [h.last] at this; omega

theorem GoodW.one {u : Nat → Int} {k : Nat} {l : List Int} (h : GoodW u k l) {i j : Nat} (hi : i < l.length) (hj : j < l.length) (e : wv l i = wv l j) : i = j := by
  by_cases c : i < j
  · have := h.mono c hj; omega
  · by_cases c' : j < i
    · have := h.mono c' hi; omega
    · omega

theorem GoodW.ix {u : Nat → Int} {k : Nat} {l : List Int} (h : GoodW u k l) {i : Nat} (hi : i < l.length) : ixF l (wv l i) = i :=
  ixF_found l _ i hi (fun j hj e => by have := h.one (by omega) hi e; omega) rfl

theorem good_way (u : Nat → Int) : ∀ k, (∀ j, j < k → depU u j < (wayU u j).length) → GoodW u k (wayU u k)
  | 0, _ => ⟨by simp [wayU], by simp [wayU], rfl, by simp [wayU, wv], fun i hi => by simp [wayU] at hi⟩
  | k + 1, h => by
    have G := good_way u k (fun j hj => h j (by omega))
    have hd : depU u k < (wayU u k).length := h k (by omega)
    have hat : wv (wayU u k) (depU u k) = u k := ixF_at hd
    have e : wayU u (k + 1) = (wayU u k).take (depU u k + 1) ++ [(k : Int)] := rfl
    have ln : ((wayU u k).take (depU u k + 1)).length = depU u k + 1 := by rw [List.length_take]; omega
    have L : (wayU u (k + 1)).length = depU u k + 2 := by rw [e, List.length_append, ln]; rfl
    have lo : ∀ i, i < depU u k + 1 → wv (wayU u (k + 1)) i = wv (wayU u k) i := fun i hi => by
      rw [e, wv_left (by omega), wv_take hi]
    have en : wv (wayU u (k + 1)) (depU u k + 1) = (k : Int) := by
      rw [e, show depU u k + 1 = ((wayU u k).take (depU u k + 1)).length from ln.symm, ln]
      have := wv_end (l := (wayU u k).take (depU u k + 1)) (x := (k : Int))
      rw [ln] at this; exact this
    refine ⟨by omega, by have := G.le; omega, ?_, ?_, fun i hi => ?_⟩
    · rw [lo 0 (by omega), G.hd]
    · rw [L, show depU u k + 2 - 1 = depU u k + 1 by omega, en]; omega
    · rw [L] at hi
      by_cases c : i = depU u k
      · subst c
        rw [en, lo _ (by omega), hat]
        have := G.hi hd
        rw [hat] at this
        exact ⟨by omega, by rw [Int.toNat_natCast], this⟩
      · rw [lo i (by omega), lo (i + 1) (by omega)]
        exact G.ch i (by omega)

/-- The way to the next one, step by step. -/
theorem way_succ (u : Nat → Int) (k : Nat) (hd : depU u k < (wayU u k).length) : (wayU u (k + 1)).length = depU u k + 2 ∧ (∀ i, i < depU u k + 1 → wv (wayU u (k + 1)) i = wv (wayU u k) i) ∧ wv (wayU u (k + 1)) (depU u k + 1) = (k : Int) := by
  have e : wayU u (k + 1) = (wayU u k).take (depU u k + 1) ++ [(k : Int)] := rfl
  have ln : ((wayU u k).take (depU u k + 1)).length = depU u k + 1 := by rw [List.length_take]; omega
  refine ⟨by rw [e, List.length_append, ln]; rfl, fun i hi => by rw [e, wv_left (by omega), wv_take hi], ?_⟩
  have := wv_end (l := (wayU u k).take (depU u k + 1)) (x := (k : Int))
  rw [ln] at this; rw [e]; exact this

/-- What is in a place is deeper, and stands right behind it. -/
theorem in_iff (u : Nat → Int) (n : Nat) (h : ∀ j, j < n → depU u j < (wayU u j).length) {a e : Nat} (hae : a < e) (hen : e < n) (hin : wv (wayU u e) (depU u a + 1) = a ∧ depU u a + 1 < (wayU u e).length) :
    (depU u a < depU u e → wv (wayU u (e + 1)) (depU u a + 1) = a ∧ depU u a + 1 < (wayU u (e + 1)).length) ∧ (¬ depU u a < depU u e → ∀ i, i < (wayU u (e + 1)).length → ¬ wv (wayU u (e + 1)) i = a) := by
  obtain ⟨L, lo, en⟩ := way_succ u e (h e hen)
  have G := good_way u e (fun j hj => h j (by omega))
  refine ⟨fun c => ⟨by rw [lo _ (by omega)]; exact hin.1, by omega⟩, fun c i hi eq => ?_⟩
  by_cases c1 : i = depU u e + 1
  · subst c1; rw [en] at eq; omega
  · rw [lo i (by omega)] at eq
    have he := h e hen
    have := G.one (i := i) (j := depU u a + 1) (by omega) hin.2 (by rw [eq, hin.1])
    omega

/-- The first that is not 0, out of n, from k on. -/
def firstF (f : Nat → Int) : Nat → Nat → Int
  | 0, _ => 0
  | n + 1, k => if f k = 0 then firstF f n (k + 1) else f k

theorem firstF_hit (f : Nat → Int) : ∀ (n i k : Nat), k < n → (∀ j, j < k → f (i + j) = 0) → ¬ f (i + k) = 0 → firstF f n i = f (i + k)
  | 0, _, _, h, _, _ => absurd h (Nat.not_lt_zero _)
  | n + 1, i, 0, _, _, hk => by unfold firstF; rw [if_neg (by simpa using hk)]; rfl
  | n + 1, i, k + 1, h, hz, hk => by
    have h0 : f i = 0 := by simpa using hz 0 (by omega)
    unfold firstF
    rw [if_pos h0, firstF_hit f n (i + 1) k (by omega) (fun j hj => by have := hz (j + 1) (by omega); rw [show i + 1 + j = i + (j + 1) by omega]; exact this) (by rw [show i + 1 + k = i + (k + 1) by omega]; exact hk)]
    rw [show i + 1 + k = i + (k + 1) by omega]

theorem firstF_none (f : Nat → Int) : ∀ (n i : Nat), (∀ j, j < n → f (i + j) = 0) → firstF f n i = 0
  | 0, _, _ => rfl
  | n + 1, i, hz => by
    have h0 : f i = 0 := by simpa using hz 0 (by omega)
    unfold firstF
    rw [if_pos h0]
    exact firstF_none f n (i + 1) (fun j hj => by have := hz (j + 1) (by omega); rw [show i + 1 + j = i + (j + 1) by omega]; exact this)

end Go.Proofs.YtcjnfodkppcpoaaDoor

/- Void tags: both sides, and the law on IsVoid. -/
namespace Go.Proofs.YtcjnfodkppcpoaaDoor
open Go.RowKit
set_option linter.unusedVariables false

/-- br or img. -/
def voidB (s : ByteArray) : Bool := (s.toList == [98, 114]) || (s.toList == [105, 109, 103])

theorem l6Void_any (s : ByteArray) (w : World) :
    Calls Tryd.prog 59 #[.string s] w fun e w' => e = .returned (.bool (voidB s)) ∧ w' = w := by
  cases h1 : (s.toList == [98, 114])
  · cases h2 : (s.toList == [105, 109, 103])
    all_goals go_enter Tryd.func59, Tryd.ntmps59
    all_goals go_wp2
    all_goals go_ret
    all_goals exact ⟨by simp [voidB, h1, h2], rfl⟩
  · go_enter Tryd.func59, Tryd.ntmps59
    go_wp2
    go_ret
    exact ⟨by simp [voidB, h1], rfl⟩

theorem implVoid_any (s : ByteArray) (w : World) :
    Calls Tryd.prog 77 #[.string s] w fun e w' => e = .returned (.bool (voidB s)) ∧ w' = w := by
  cases h1 : (s.toList == [98, 114])
  · cases h2 : (s.toList == [105, 109, 103])
    all_goals go_enter Tryd.func77, Tryd.ntmps77
    all_goals go_wp2
    all_goals go_ret
    all_goals exact ⟨by simp [voidB, h1, h2], rfl⟩
  · go_enter Tryd.func77, Tryd.ntmps77
    go_wp2
    go_ret
    exact ⟨by simp [voidB, h1], rfl⟩

end Go.Proofs.YtcjnfodkppcpoaaDoor

/- Lists of nodes that lie in memory; their sizes. -/
namespace Go.Proofs.YtcjnfodkppcpoaaDoor
open Go.RowKit
set_option linter.unusedVariables false
set_option linter.unusedSimpArgs false

/-- A node. -/
structure ND where
  up : Int
  tg : ByteArray
  at_ : List AT
  tx : List Int

/-- The k-th of nodes. -/
def ndK (l : List ND) (k : Nat) : ND := l.getD k ⟨0, ⟨#[]⟩, [], []⟩

/-- Nodes lie at an address. -/
def NsAt (w : World) (a : Option Addr) (l : List ND) : Prop :=
  l = [] ∨ ∃ b o, a = some ⟨b, o, none⟩ ∧ b < w.heap.size ∧ ∀ k, k < l.length → w.cell? ⟨b, o + k * 4, none⟩ = some (.int .i64 (ndK l k).up) ∧ w.cell? ⟨b, o + k * 4 + 1, none⟩ = some (.string (ndK l k).tg) ∧ (∃ p c, w.cell? ⟨b, o + k * 4 + 2, none⟩ = some (.slice p (ndK l k).at_.length c) ∧ (ndK l k).at_.length ≤ c ∧ AAt w p (ndK l k).at_) ∧ (∃ p c, w.cell? ⟨b, o + k * 4 + 3, none⟩ = some (.slice p (ndK l k).tx.length c) ∧ BAt w p (ndK l k).tx)

theorem NsAt.below {w w' : World} {a : Option Addr} {l : List ND} (h : NsAt w a l) (hb : Below w.heap.size w w') : NsAt w' a l := by
  rcases h with h | ⟨b, o, e, hs, hc⟩
  · exact .inl h
  · refine .inr ⟨b, o, e, Nat.lt_of_lt_of_le hs hb.size, fun k hk => ?_⟩
    obtain ⟨h1, h2, ⟨p, c, h3, h4, h5⟩, ⟨p', c', h6, h7⟩⟩ := hc k hk
    exact ⟨(hb.cell hs).trans h1, (hb.cell hs).trans h2, ⟨p, c, (hb.cell hs).trans h3, h4, h5.below hb⟩, ⟨p', c', (hb.cell hs).trans h6, h7.below hb⟩⟩

/-- The size of a node, and of nodes. -/
def nsz (t : ND) : Nat := t.tg.size + t.at_.length + asz t.at_ + t.tx.length
def nssz : List ND → Nat
  | [] => 0
  | x :: r => nsz x + nssz r

theorem nssz_take (l : List ND) : ∀ k, k < l.length → nssz (l.take (k + 1)) = nssz (l.take k) + nsz (ndK l k) := by
  induction l with
  | nil => intro k h; exact absurd h (Nat.not_lt_zero _)
  | cons x r ih =>
    intro k hk
    cases k with
    | zero => simp [nssz, ndK]
    | succ k =>
      have := ih k (by simpa using hk)
      simp only [List.take_succ_cons, nssz]
      rw [this]
      have e : ndK (x :: r) (k + 1) = ndK r k := by simp [ndK]
      rw [e]; omega

theorem nssz_le (l : List ND) (k : Nat) : nssz (l.take k) ≤ nssz l := by
  induction l generalizing k with
  | nil => simp [nssz]
  | cons x r ih =>
    cases k with
    | zero => simp [nssz]
    | succ k => simp only [List.take_succ_cons, nssz]; have := ih k; omega

theorem nssz_at {l : List ND} {k : Nat} (h : k < l.length) : nsz (ndK l k) ≤ nssz l := by
  have h1 := nssz_take l k h
  have h2 := nssz_le l (k + 1)
  omega

set_option maxHeartbeats 800000 in
theorem szNode_gen (t : ND) (a p : Option Addr) (c d : Nat) (z : Int) (w : World) (ha : AAt w a t.at_) (hw : Wide t.at_) (hn : (t.tg.size : Int) ≤ 9223372036854775807) (hl : (t.at_.length : Int) ≤ 9223372036854775807) (hx : (t.tx.length : Int) ≤ 9223372036854775807) (h0 : 0 ≤ z) (h1 : z ≤ 1048576) :
    Calls Tryd.prog 20 #[.agg #[.int .i64 t.up, .string t.tg, .slice a t.at_.length c, .slice p t.tx.length d], .int .i64 z] w fun e w' => e = .returned (.int .i64 (if z < (nsz t : Int) then -1 else z - nsz t)) ∧ Below w.heap.size w w' := by
  unfold nsz
  by_cases g1 : z < (t.tg.size : Int)
  · rw [if_pos (by omega)]
    go_enter Tryd.func20, Tryd.ntmps20
    go_wp2
    go_ret
    exact ⟨rfl, (Below.refl _ _).alloc (Nat.le_refl _) _⟩
  have N0 := below_new w (.cells #[.int .i64 t.up, .string t.tg, .slice a t.at_.length c, .slice p t.tx.length d] 44)
  have KA := Hid.mk' (szAttrS_any a c t.at_ (z - (t.tg.size : Int)) _ (ha.below N0) hw (by omega) (by omega) hl)
  have HP := Hid.mk' (row4 w 44 (.int .i64 t.up) (.string t.tg) (.slice a t.at_.length c) (.slice p t.tx.length d))
  have HB := Hid.mk' N0
  clear N0 ha hw
  by_cases g2 : z - (t.tg.size : Int) < (t.at_.length : Int) + asz t.at_
  · rw [if_pos g2] at KA
    rw [if_pos (by omega)]
    go_enter Tryd.func20, Tryd.ntmps20
    go_wp2_with fail
    refine KA.out.mono ?_
    rintro e w1 ⟨rfl, hb⟩
    have HB := Hid.mk' (HB.out.trans (hb.mono HB.out.size))
    clear hb KA
    go_wp2
    go_ret
    exact ⟨rfl, HB.out⟩
  · rw [if_neg g2] at KA
    have gy : ¬ (z - (t.tg.size : Int) - t.at_.length - asz t.at_ < 0) := by omega
    by_cases g3 : z - (t.tg.size : Int) - t.at_.length - asz t.at_ < (t.tx.length : Int)
    · rw [if_pos (by omega)]
      go_enter Tryd.func20, Tryd.ntmps20
      go_wp2_with fail
      refine KA.out.mono ?_
      rintro e w1 ⟨rfl, hb⟩
      obtain ⟨c0, c1, c2, c3, c4⟩ := cells4 (rowB HP.out hb)
      have HB := Hid.mk' (HB.out.trans (hb.mono HB.out.size))
      clear hb KA
      go_wp2_with (go_at_call 42; refine (szByteS_any _ _ _ _ _ (by omega) (by omega) (by omega)).mono ?_; rintro e w' ⟨rfl, rfl⟩)
      go_ret
      exact ⟨rfl, HB.out⟩
    · rw [if_neg (by omega)]
      go_enter Tryd.func20, Tryd.ntmps20
      go_wp2_with fail
      refine KA.out.mono ?_
      rintro e w1 ⟨rfl, hb⟩
      obtain ⟨c0, c1, c2, c3, c4⟩ := cells4 (rowB HP.out hb)
      have HB := Hid.mk' (HB.out.trans (hb.mono HB.out.size))
      clear hb KA
      go_wp2_with (go_at_call 42; refine (szByteS_any _ _ _ _ _ (by omega) (by omega) (by omega)).mono ?_; rintro e w' ⟨rfl, rfl⟩)
      go_ret
      exact ⟨by congr 2; simp; omega, HB.out⟩

/-- Nothing in them is wider than a machine's. -/
def WideN (l : List ND) : Prop := ∀ k, k < l.length → Wide (ndK l k).at_ ∧ ((ndK l k).tg.size : Int) ≤ 9223372036854775807 ∧ ((ndK l k).at_.length : Int) ≤ 9223372036854775807 ∧ ((ndK l k).tx.length : Int) ≤ 9223372036854775807

set_option maxHeartbeats 1600000 in
theorem szNodeS_any (a : Option Addr) (c : Nat) (l : List ND) (z : Int) (w : World) (ha : NsAt w a l) (hw : WideN l) (h0 : 0 ≤ z) (h1 : z ≤ 1048576) (hl : (l.length : Int) ≤ 9223372036854775807) :
    Calls Tryd.prog 6 #[.slice a l.length c, .int .i64 z] w fun e w' => e = .returned (.int .i64 (if z < (l.length : Int) + nssz l then -1 else z - l.length - nssz l)) ∧ Below w.heap.size w w' := by
  by_cases g1 : z < (l.length : Int)
  · rw [if_pos (by omega)]
    go_enter Tryd.func6, Tryd.ntmps6
    go_wp2
    go_ret
    exact ⟨rfl, Below.refl _ _⟩
  have HA := Hid.mk' ha
  have HW := Hid.mk' hw
  clear ha hw
  go_enter Tryd.func6, Tryd.ntmps6
  go_wp2
  go_loopw [1, 5] (fun x i wr => ∃ k : Nat, k ≤ l.length ∧ i = .int .i64 k ∧ x = .int .i64 (z - (l.length : Int) - (nssz (l.take k) : Int)) ∧ (nssz (l.take k) : Int) ≤ z - l.length ∧ Below w.heap.size w wr) (fun _ i _ => l.length - (intOf i).toNat)
  case atStart => exact ⟨0, Nat.zero_le _, rfl, by simp [nssz], by simp [nssz]; omega, Below.refl _ _⟩
  case round =>
    obtain ⟨k, hk, rfl, rfl, hz, hbl⟩ := hrel
    have HB := Hid.mk' hbl
    clear hbl
    by_cases hlt : k < l.length
    · have ci : (k : Int) < (l.length : Int) := by omega
      rcases HA.out.below HB.out with ha | ⟨b, o, rfl, hbs, hc⟩
      · exact absurd hlt (by rw [ha]; exact Nat.not_lt_zero _)
      obtain ⟨q1, q2, ⟨p, d, q3, _, q4⟩, ⟨p', d', q5, _⟩⟩ := hc k hlt
      obtain ⟨w1, w2, w3, w4⟩ := HW.out k hlt
      have st := nssz_take l k hlt
      have KA := Hid.mk' (szNode_gen (ndK l k) p p' d d' (z - (l.length : Int) - (nssz (l.take k) : Int)) wr q4 w1 w2 w3 w4 (by omega) (by omega))
      generalize hy : z - (l.length : Int) - (nssz (l.take k) : Int) = y at *
      clear hc q4
      by_cases g2 : y < (nsz (ndK l k) : Int)
      · rw [if_pos g2] at KA
        have gz : z < (l.length : Int) + nssz l := by have := nssz_le l (k + 1); omega
        go_wp2_with fail
        refine KA.out.mono ?_
        rintro e w1 ⟨rfl, hb⟩
        have HB := Hid.mk' (HB.out.trans (hb.mono HB.out.size))
        clear hb KA
        go_wp2
        go_ret
        exact ⟨by first | rfl | (rw [if_pos gz]; rfl), HB.out⟩
      · rw [if_neg g2] at KA
        have gy : ¬ (y - (nsz (ndK l k) : Int) < 0) := by omega
        go_wp2_with fail
        refine KA.out.mono ?_
        rintro e w1 ⟨rfl, hb⟩
        have HB := Hid.mk' (HB.out.trans (hb.mono HB.out.size))
        clear hb KA
        go_wp2
        go_roundw
        case rel => exact ⟨k + 1, by omega, by go_num, by congr 1; omega, by omega, HB.out⟩
        case measure => simp [intOf]; omega
    · have ci : ¬ (k : Int) < (l.length : Int) := by omega
      have e : k = l.length := by omega
      subst e
      rw [List.take_length] at hz
      go_wp2
      go_ret
      exact ⟨by first | rfl | (simp; done) | (rw [if_neg (by omega)]; simp), HB.out⟩

end Go.Proofs.YtcjnfodkppcpoaaDoor

/- Walks: nodes copied. -/
namespace Go.Proofs.YtcjnfodkppcpoaaDoor
open Go.RowKit
set_option linter.unusedVariables false
set_option linter.unusedSimpArgs false

/-- A row of attributes of one's own at g; the bytes of each one behind it, and all below hi. -/
def AOh (hi g : Nat) (l : List AT) (w : World) : Prop := ∃ f, w.rowIs g 94 (l.length * 2) f ∧ g < hi ∧ ∀ j, j < l.length → f (j * 2) = .string (atK l j).nm ∧ ∃ b, f (j * 2 + 1) = .slice (some ⟨b, 0, none⟩) (atK l j).vl.length (atK l j).vl.length ∧ g < b ∧ b < hi ∧ w.rowIs b 5 (atK l j).vl.length (bv (atK l j).vl)

theorem AOh.ao {hi g : Nat} {l : List AT} {w : World} (h : AOh hi g l w) : AO g l w := by
  obtain ⟨f, hf, _, hj⟩ := h
  refine ⟨f, hf, fun j hl => ?_⟩
  obtain ⟨h1, b, h2, h3, _, h4⟩ := hj j hl
  exact ⟨h1, b, h2, h3, h4⟩

theorem AO.h {hi g : Nat} {l : List AT} {w : World} (h : AO g l w) (hh : w.heap.size ≤ hi) : AOh hi g l w := by
  obtain ⟨f, hf, hj⟩ := h
  refine ⟨f, hf, Nat.lt_of_lt_of_le hf.lt hh, fun j hl => ?_⟩
  obtain ⟨h1, b, h2, h3, h4⟩ := hj j hl
  exact ⟨h1, b, h2, h3, Nat.lt_of_lt_of_le h4.lt hh, h4⟩

/-- What lies from g on and below hi stays. -/
theorem AOh.keep {hi g : Nat} {l : List AT} {w w' : World} (h : AOh hi g l w) (hk : ∀ k, g ≤ k → k < hi → k < w.heap.size → w'.heap[k]? = w.heap[k]?) : AOh hi g l w' := by
  obtain ⟨f, hf, hg, hj⟩ := h
  refine ⟨f, hf.of_block (hk g (Nat.le_refl _) hg hf.lt), hg, fun j hl => ?_⟩
  obtain ⟨h1, b, h2, h3, h4, h5⟩ := hj j hl
  exact ⟨h1, b, h2, h3, h4, h5.of_block (hk b (by omega) h4 h5.lt)⟩

theorem AOh.below {hi g : Nat} {l : List AT} {w w' : World} (h : AOh hi g l w) (hb : Below w.heap.size w w') : AOh hi g l w' := h.keep fun k _ _ hl => hb.block k hl

theorem AOh.kept {hi g lo' hi' : Nat} {l : List AT} {w w' : World} (h : AOh hi g l w) (hk : KeptIn lo' hi' w w') (hd : hi ≤ lo' ∨ hi' ≤ g) : AOh hi g l w' := h.keep fun k h1 h2 hl => hk.block k hl (by omega)

set_option maxHeartbeats 3200000 in
theorem toNode_any (t : ND) (a p : Option Addr) (c d : Nat) (w : World) (ha : AAt w a t.at_) (hp : BAt w p t.tx) (hl : (nsz t : Int) ≤ 1048576) :
    Calls Tryd.prog 23 #[.agg #[.int .i64 t.up, .string t.tg, .slice a t.at_.length c, .slice p t.tx.length d]] w fun e w' => ∃ g b, e = .returned (.agg #[.int .i64 t.up, .string t.tg, .slice (some ⟨g, 0, none⟩) t.at_.length t.at_.length, .slice (some ⟨b, 0, none⟩) t.tx.length t.tx.length]) ∧ w.heap.size ≤ g ∧ AOh b g t.at_ w' ∧ w'.rowIs b 5 t.tx.length (bv t.tx) ∧ Below w.heap.size w w' := by
  unfold nsz at hl
  have B0 := ((Below.refl w.heap.size w).alloc (Nat.le_refl _) (.cells #[.int .i64 t.up, .string t.tg, .slice a t.at_.length c, .slice p t.tx.length d] 44)).alloc (by simp) (.cells #[.int .i64 0, .string ⟨#[]⟩, .slice none 0 0, .slice none 0 0] 49)
  have B1 := B0.alloc (by simp; omega) (.cells #[.int .i64 t.up, .string t.tg, .slice none 0 0, .slice none 0 0] 49)
  have RP := ((row4 w 44 (.int .i64 t.up) (.string t.tg) (.slice a t.at_.length c) (.slice p t.tx.length d)).alloc (.cells #[.int .i64 0, .string ⟨#[]⟩, .slice none 0 0, .slice none 0 0] 49)).alloc (.cells #[.int .i64 t.up, .string t.tg, .slice none 0 0, .slice none 0 0] 49)
  have RR := (row4 (w.alloc (.cells #[.int .i64 t.up, .string t.tg, .slice a t.at_.length c, .slice p t.tx.length d] 44)) 49 (.int .i64 0) (.string ⟨#[]⟩) (.slice none 0 0) (.slice none 0 0)).alloc (.cells #[.int .i64 t.up, .string t.tg, .slice none 0 0, .slice none 0 0] 49)
  have RO := row4 ((w.alloc (.cells #[.int .i64 t.up, .string t.tg, .slice a t.at_.length c, .slice p t.tx.length d] 44)).alloc (.cells #[.int .i64 0, .string ⟨#[]⟩, .slice none 0 0, .slice none 0 0] 49)) 49 (.int .i64 t.up) (.string t.tg) (.slice none 0 0) (.slice none 0 0)
  have KB := Hid.mk' (toAttrS_any a c t.at_ _ (ha.below B1) (by omega))
  have HB := Hid.mk' B1
  have HT := Hid.mk' hp
  have z1 : (w.alloc (.cells #[.int .i64 t.up, .string t.tg, .slice a t.at_.length c, .slice p t.tx.length d] 44)).heap.size = w.heap.size + 1 := by simp
  have z2 : ((w.alloc (.cells #[.int .i64 t.up, .string t.tg, .slice a t.at_.length c, .slice p t.tx.length d] 44)).alloc (.cells #[.int .i64 0, .string ⟨#[]⟩, .slice none 0 0, .slice none 0 0] 49)).heap.size = w.heap.size + 1 + 1 := by simp
  have z3 : (((w.alloc (.cells #[.int .i64 t.up, .string t.tg, .slice a t.at_.length c, .slice p t.tx.length d] 44)).alloc (.cells #[.int .i64 0, .string ⟨#[]⟩, .slice none 0 0, .slice none 0 0] 49)).alloc (.cells #[.int .i64 t.up, .string t.tg, .slice none 0 0, .slice none 0 0] 49)).heap.size = w.heap.size + 1 + 1 + 1 := by simp
  rw [z1] at RR
  rw [z2] at RO
  have HR := Hid.mk' RR
  have HO := Hid.mk' RO
  have HP := Hid.mk' RP
  have Z3 := Hid.mk' z3
  clear ha hp B0 B1 RR RO RP z1 z2 z3
  generalize hW : ((w.alloc (.cells #[.int .i64 t.up, .string t.tg, .slice a t.at_.length c, .slice p t.tx.length d] 44)).alloc (.cells #[.int .i64 0, .string ⟨#[]⟩, .slice none 0 0, .slice none 0 0] 49)).alloc (.cells #[.int .i64 t.up, .string t.tg, .slice none 0 0, .slice none 0 0] 49) = W at *
  obtain ⟨p0, p1, p2_, p3, p4⟩ := cells4 HP.out
  go_enter Tryd.func23, Tryd.ntmps23
  go_wp2_with fail
  clear hW p0 p1 p2_ p3 p4
  refine KB.out.mono ?_
  rintro e w1 ⟨rfl, har⟩
  have hbl := har.bl
  have Hp := rowB HP.out hbl
  have Ho := rowB HO.out hbl
  have Hr := rowB HR.out hbl
  have K1 := (KeptIn.refl (w.heap.size + 1) (w.heap.size + 1 + 1 + 1) w1).setCell (p := ⟨w.heap.size + 1 + 1, 2, none⟩) (by simp) (by simp) (.slice (some ⟨W.heap.size, 0, none⟩) t.at_.length t.at_.length)
  have hz := Z3.out
  have hs1 := hbl.size
  have B2 := (HB.out.trans (hbl.mono HB.out.size)).trans (K1.below (B := w.heap.size) (by omega) (by omega))
  have KT := Hid.mk' (toByteS_any p d t.tx _ (HT.out.below B2) (by omega))
  have HA := Hid.mk' (AO.of har K1 (by omega))
  have KK := Hid.mk' K1
  have BB := Hid.mk' B2
  have Hp2 := Hid.mk' (rowK Hp K1 (.inl (by omega)))
  have Ho2 := Hid.mk' (Ho.set 2 (.slice (some ⟨W.heap.size, 0, none⟩) t.at_.length t.at_.length))
  have Hr2 := Hid.mk' (rowK (lo := w.heap.size + 1 + 1) (hi := w.heap.size + 1 + 1 + 1) Hr ((KeptIn.refl _ _ w1).setCell (p := ⟨w.heap.size + 1 + 1, 2, none⟩) (by simp) (by simp) (.slice (some ⟨W.heap.size, 0, none⟩) t.at_.length t.at_.length)) (.inl (by omega)))
  obtain ⟨p0, p1, p2_, p3, p4⟩ := cells4 Hp
  obtain ⟨o0, o1, o2, o3, o4⟩ := cells4 Ho
  have fo2 := Ho.frozen 2
  have s2 : (w1.setCell ⟨w.heap.size + 1 + 1, 2, none⟩ (.slice (some ⟨W.heap.size, 0, none⟩) t.at_.length t.at_.length)).heap.size = w1.heap.size := by simp [World.setCell]
  have p3' := Hp2.out.cell (i := 3) (by omega)
  have S2 := Hid.mk' s2
  have S1 := Hid.mk' hs1
  have ZZ := Hid.mk' hz
  clear Hp Ho Hr har hbl K1 B2 KB HO HR HP HB HT Z3 hz hs1 s2
  generalize hV : w1.setCell ⟨w.heap.size + 1 + 1, 2, none⟩ (.slice (some ⟨W.heap.size, 0, none⟩) t.at_.length t.at_.length) = V at *
  go_wp2_with fail
  clear hV p0 p1 p2_ p3 p4 o0 o1 o2 o3 o4 fo2 p3'
  refine KT.out.mono ?_
  rintro e w2 ⟨b, rfl, hb, hrow, hbl⟩
  have Ho := rowB Ho2.out hbl
  have Hr := rowB Hr2.out hbl
  have Hp := rowB Hp2.out hbl
  obtain ⟨p0, p1, p2_, p3, p4⟩ := cells4 Hp
  have o0 : w2.cell? ⟨w.heap.size + 1 + 1, 0, none⟩ = some (.int .i64 t.up) := Ho.cell (by omega)
  have o1 : w2.cell? ⟨w.heap.size + 1 + 1, 1, none⟩ = some (.string t.tg) := Ho.cell (by omega)
  have o2 : w2.cell? ⟨w.heap.size + 1 + 1, 2, none⟩ = some (.slice (some ⟨W.heap.size, 0, none⟩) t.at_.length t.at_.length) := Ho.cell (by omega)
  have o3 : w2.cell? ⟨w.heap.size + 1 + 1, 3, none⟩ = some (.slice none 0 0) := Ho.cell (by omega)
  have o4 : w.heap.size + 1 + 1 < w2.heap.size := Ho.lt
  obtain ⟨r0, r1, r2, r3_, r4_⟩ := cells4 Hr
  have fo3 := Ho.frozen 3
  have fr0 := Hr.frozen 0
  have fr1 := Hr.frozen 1
  have fr2 := Hr.frozen 2
  have fr3 := Hr.frozen 3
  have AH := Hid.mk' ((HA.out.h (hi := b) (by omega)).below hbl)
  have RW := Hid.mk' hrow
  have BL := Hid.mk' hbl
  have hb' := Hid.mk' hb
  clear Ho Hr Hp hrow hbl KT Ho2 Hr2 Hp2 HA KK hb
  go_wp2
  refine bodyPost_ret (v := .agg #[.int .i64 t.up, .string t.tg, .slice (some ⟨W.heap.size, 0, none⟩) t.at_.length t.at_.length, .slice (some ⟨b, 0, none⟩) t.tx.length t.tx.length]) (by simp [results, Tryd.results23, go_sem, *]) rfl ?_
  have e1 := ZZ.out
  have e2 := S1.out
  have e3 := S2.out
  have e4 := hb'.out
  have KK := (((((KeptIn.refl (w.heap.size + 1) (w.heap.size + 1 + 1 + 1) w2).setCell (p := ⟨w.heap.size + 1 + 1, 3, none⟩) (by simp) (by simp) (.slice (some ⟨b, 0, none⟩) t.tx.length t.tx.length)).setCell (p := ⟨w.heap.size + 1, 0, none⟩) (by simp) (by simp) (.int .i64 t.up)).setCell (p := ⟨w.heap.size + 1, 1, none⟩) (by simp) (by simp) (.string t.tg)).setCell (p := ⟨w.heap.size + 1, 2, none⟩) (by simp) (by simp) (.slice (some ⟨W.heap.size, 0, none⟩) t.at_.length t.at_.length)).setCell (p := ⟨w.heap.size + 1, 3, none⟩) (by simp) (by simp) (.slice (some ⟨b, 0, none⟩) t.tx.length t.tx.length)
  exact ⟨W.heap.size, b, rfl, by omega, AH.out.kept KK (.inr (by omega)), rowK RW.out KK (.inr (by omega)), (BB.out.trans (BL.out.mono BB.out.size)).trans (KK.below (by omega) (by omega))⟩

theorem Tryd.info49 : (Tryd.prog.info? 49).map (fun i => (i.zero, i.size, i.bytes)) = some (some (.agg #[.int .i64 0, .string ⟨#[]⟩, .slice none 0 0, .slice none 0 0]), 4, 72) := by kernel_rfl

theorem make_nodes {P : Program} (t e : TypeId) (ht : P.underlying t = some (.slice e)) (hinfo : (P.info? e).map (fun i => (i.zero, i.size, i.bytes)) = some (some (.agg #[.int .i64 0, .string ⟨#[]⟩, .slice none 0 0, .slice none 0 0]), 4, 72))
    (n : Nat) (hn : (n : Int) ≤ 1048576) (w : World) :
    (Instr.makeSlice t (.int .i64 (n : Int)) (.int .i64 (n : Int))).run P w = .ok (.slice (some ⟨w.heap.size, 0, none⟩) n n) (w.alloc (.cells (madeCells #[.int .i64 0, .string ⟨#[]⟩, .slice none 0 0, .slice none 0 0] (n * 4)) e)) := by
  obtain ⟨i, hi, hzz⟩ := Option.map_eq_some_iff.1 hinfo
  simp only [Prod.mk.injEq] at hzz
  obtain ⟨hz, hs, hb⟩ := hzz
  have hr := run_make (P := P) w t e i _ ht hi hz .i64 .i64 n n (by omega) (Int.le_refl _) (by rw [hb]; omega) (by omega)
  simp only [Int.toNat_natCast, hs] at hr
  exact hr

/-- A node in a row of nodes of one's own: its rows lie from lo on and below hi. -/
def NO (lo hi : Nat) (t : ND) (f : Nat → Value) (j : Nat) (w : World) : Prop :=
  f (j * 4) = .int .i64 t.up ∧ f (j * 4 + 1) = .string t.tg ∧ ∃ g b, f (j * 4 + 2) = .slice (some ⟨g, 0, none⟩) t.at_.length t.at_.length ∧ f (j * 4 + 3) = .slice (some ⟨b, 0, none⟩) t.tx.length t.tx.length ∧ lo ≤ g ∧ b < hi ∧ AOh b g t.at_ w ∧ w.rowIs b 5 t.tx.length (bv t.tx)

theorem AOh.lt {hi g : Nat} {l : List AT} {w : World} (h : AOh hi g l w) : g < hi := by obtain ⟨_, _, h, _⟩ := h; exact h

theorem NO.keep {lo hi : Nat} {t : ND} {f f' : Nat → Value} {j : Nat} {w w' : World} (h : NO lo hi t f j w) (hf : ∀ i, i < 4 → f' (j * 4 + i) = f (j * 4 + i)) (hk : ∀ k, lo ≤ k → k < hi → k < w.heap.size → w'.heap[k]? = w.heap[k]?) : NO lo hi t f' j w' := by
  obtain ⟨h1, h2, g, b, h3, h4, h5, h6, h7, h8⟩ := h
  have hl := h7.lt
  exact ⟨(hf 0 (by omega)).trans h1, (hf 1 (by omega)).trans h2, g, b, (hf 2 (by omega)).trans h3, (hf 3 (by omega)).trans h4, h5, h6, h7.keep (fun k a c d => hk k (by omega) (by omega) d), h8.of_block (hk b (by omega) h6 h8.lt)⟩

/-- Nodes being copied into a row of one's own: k of them are there; the rows of each one behind those of the one ahead. -/
structure NR (w : World) (l : List ND) (k : Nat) (wr : World) : Prop where
  bl : Below w.heap.size w wr
  row : ∃ (f : Nat → Value) (s : Nat → Nat), wr.rowIs w.heap.size 49 (l.length * 4) f ∧ w.heap.size < s 0 ∧ s k ≤ wr.heap.size ∧ (∀ j, j < k → s j ≤ s (j + 1)) ∧ ∀ j, j < k → NO (s j) (s (j + 1)) (ndK l j) f j wr

theorem NR.start (w : World) (l : List ND) : NR w l 0 (w.alloc (.cells (madeCells #[.int .i64 0, .string ⟨#[]⟩, .slice none 0 0, .slice none 0 0] (l.length * 4)) 49)) := by
  refine ⟨(Below.refl _ _).alloc (Nat.le_refl _) _, fun i => r4 (.int .i64 0) (.string ⟨#[]⟩) (.slice none 0 0) (.slice none 0 0) (i % 4), fun _ => w.heap.size + 1, ?_, Nat.lt_succ_self _, by simp, fun j hj => absurd hj (Nat.not_lt_zero _), fun j hj => absurd hj (Nat.not_lt_zero _)⟩
  refine ⟨_, Deep.blk_alloc_new _ _, size_madeCells _ _, fun i hi => ?_⟩
  have h : i % 4 = 0 ∨ i % 4 = 1 ∨ i % 4 = 2 ∨ i % 4 = 3 := by omega
  rcases h with h | h | h | h <;> simp [madeCells, hi, h, r4]

theorem NR.below {w wr w1 : World} {l : List ND} {k : Nat} (h : NR w l k wr) (hb : Below wr.heap.size wr w1) : NR w l k w1 := by
  obtain ⟨f, s, hf, h0, h1, h2, hj⟩ := h.row
  exact ⟨h.bl.trans (hb.mono h.bl.size), f, s, rowB hf hb, h0, Nat.le_trans h1 hb.size, h2, fun j hk => (hj j hk).keep (fun _ _ => rfl) (fun i _ _ hl => hb.block i hl)⟩

theorem mono_s {s : Nat → Nat} {k : Nat} (h : ∀ j, j < k → s j ≤ s (j + 1)) : ∀ j, j ≤ k → s 0 ≤ s j
  | 0, _ => Nat.le_refl _
  | j + 1, hj => Nat.le_trans (mono_s h j (by omega)) (h j (by omega))

theorem NR.step {w wr w1 : World} {l : List ND} {k g b : Nat} (h : NR w l k wr) (hb1 : Below wr.heap.size wr w1) (hg : wr.heap.size ≤ g) (hao : AOh b g (ndK l k).at_ w1) (hrow : w1.rowIs b 5 (ndK l k).tx.length (bv (ndK l k).tx)) :
    NR w l (k + 1) ((((w1.setCell ⟨w.heap.size, k * 4, none⟩ (.int .i64 (ndK l k).up)).setCell ⟨w.heap.size, k * 4 + 1, none⟩ (.string (ndK l k).tg)).setCell ⟨w.heap.size, k * 4 + 2, none⟩ (.slice (some ⟨g, 0, none⟩) (ndK l k).at_.length (ndK l k).at_.length)).setCell ⟨w.heap.size, k * 4 + 3, none⟩ (.slice (some ⟨b, 0, none⟩) (ndK l k).tx.length (ndK l k).tx.length)) := by
  have h' := h.below hb1
  obtain ⟨f0, s0, hf0, _, h10, _, _⟩ := h.row
  obtain ⟨f, s, hf, h0, h1, h2, hj⟩ := h.row
  have hf := rowB hf hb1
  have K := kept4 w1 w.heap.size (k * 4) (k * 4 + 1) (k * 4 + 2) (k * 4 + 3) (.int .i64 (ndK l k).up) (.string (ndK l k).tg) (.slice (some ⟨g, 0, none⟩) (ndK l k).at_.length (ndK l k).at_.length) (.slice (some ⟨b, 0, none⟩) (ndK l k).tx.length (ndK l k).tx.length)
  have hm := mono_s h2
  have hbs := hb1.size
  have hbl := hrow.lt
  have hgb := hao.lt
  have hm2 := hm k (Nat.le_refl _)
  refine ⟨h'.bl.trans (K.below (Nat.le_refl _) h'.bl.size), _, fun j => if j = k + 1 then w1.heap.size else s j, (((hf.set (k * 4) _).set (k * 4 + 1) _).set (k * 4 + 2) _).set (k * 4 + 3) _, by simpa using h0, ?_, fun j hk => ?_, fun j hk => ?_⟩
  · simp [World.setCell]
  · by_cases e : j = k
    · subst e; simp; omega
    · simp only [show ¬ j = k + 1 by omega, show ¬ j + 1 = k + 1 by omega, if_false]; exact h2 j (by omega)
  · by_cases e : j = k
    · subst e
      simp only [show ¬ j = j + 1 by omega, if_false, if_true]
      refine ⟨?_, ?_, g, b, ?_, ?_, by omega, hbl, hao.kept K (.inr (by omega)), rowK hrow K (.inr (by omega))⟩
      · dsimp only; rw [if_neg (by omega), if_neg (by omega), if_neg (by omega), if_pos rfl]
      · dsimp only; rw [if_neg (by omega), if_neg (by omega), if_pos rfl]
      · dsimp only; rw [if_neg (by omega), if_pos rfl]
      · dsimp only; rw [if_pos rfl]
    · simp only [show ¬ j = k + 1 by omega, show ¬ j + 1 = k + 1 by omega, if_false]
      have hmj := hm j (by omega)
      refine (hj j (by omega)).keep (fun i hi => ?_) (fun i h3 h4 h5 => ?_)
      · rw [if_neg (by omega), if_neg (by omega), if_neg (by omega), if_neg (by omega)]
      · exact (K.block i (by omega) (by omega)).trans (hb1.block i h5)

theorem NR.at {w wr : World} {l : List ND} (h : NR w l l.length wr) : NsAt wr (some ⟨w.heap.size, 0, none⟩) l := by
  obtain ⟨f, s, hf, h0, h1, h2, hj⟩ := h.row
  refine .inr ⟨_, _, rfl, hf.lt, fun k hk => ?_⟩
  obtain ⟨e1, e2, g, b, e3, e4, h5, h6, h7, h8⟩ := hj k hk
  have c := fun i (hi : i < 4) => hf.cell (show k * 4 + i < l.length * 4 by omega)
  refine ⟨by rw [Nat.zero_add]; exact (c 0 (by omega)).trans (by rw [Nat.add_zero, e1]), by rw [Nat.zero_add, c 1 (by omega), e2], ⟨_, _, by rw [Nat.zero_add, c 2 (by omega), e3], Nat.le_refl _, h7.ao.at⟩, ⟨_, _, by rw [Nat.zero_add, c 3 (by omega), e4], .of_row h8⟩⟩

set_option maxHeartbeats 1600000 in
theorem toNodeS_any (a : Option Addr) (c : Nat) (l : List ND) (w : World) (ha : NsAt w a l) (hl : (l.length : Int) + nssz l ≤ 1048576) :
    Calls Tryd.prog 8 #[.slice a l.length c] w fun e w' => e = .returned (.slice (some ⟨w.heap.size, 0, none⟩) l.length l.length) ∧ NR w l l.length w' := by
  have hmk := make_nodes (P := Tryd.prog) 28 49 Tryd.underlying28 Tryd.info49 l.length (by omega)
  have HA := Hid.mk' ha
  clear ha
  go_enter Tryd.func8, Tryd.ntmps8
  go_wp2
  go_loopw [4] (fun i wr => ∃ k : Nat, k ≤ l.length ∧ i = .int .i64 k ∧ NR w l k wr) (fun i _ => l.length - (intOf i).toNat)
  case atStart => exact ⟨0, Nat.zero_le _, rfl, NR.start w l⟩
  case round =>
    obtain ⟨k, hk, rfl, hr⟩ := hrel
    have HR := Hid.mk' hr
    clear hr hmk
    by_cases hlt : k < l.length
    · have ci : (k : Int) < (l.length : Int) := by omega
      rcases HA.out with ha | ⟨b, o, rfl, hbs, hc⟩
      · exact absurd hlt (by rw [ha]; exact Nat.not_lt_zero _)
      obtain ⟨q1, q2, ⟨p, d, q3, _, q4⟩, ⟨p', d', q5, q6⟩⟩ := hc k hlt
      have h1 := (HR.out.bl.cell hbs).trans q1
      have h2 := (HR.out.bl.cell hbs).trans q2
      have h3 := (HR.out.bl.cell hbs).trans q3
      have h4 := (HR.out.bl.cell hbs).trans q5
      have st := nssz_at hlt
      have KA := Hid.mk' (toNode_any (ndK l k) p p' d d' wr (q4.below HR.out.bl) (q6.below HR.out.bl) (by omega))
      clear q1 q2 q3 q4 q5 q6 hc st
      go_wp2_with fail
      refine KA.out.mono ?_
      rintro e w1 ⟨g, b1, rfl, hg, hao, hrow, hbl⟩
      have hr1 := HR.out.below hbl
      obtain ⟨f, _, hf, _⟩ := hr1.row
      have f0 := hf.frozen (k * 4)
      have f1 := hf.frozen (k * 4 + 1)
      have f2 := hf.frozen (k * 4 + 2)
      have f3 := hf.frozen (k * 4 + 3)
      obtain ⟨v0, g0⟩ : ∃ v, w1.cell? ⟨w.heap.size, k * 4, none⟩ = some v := ⟨_, hf.cell (by omega)⟩
      obtain ⟨v1, g1⟩ : ∃ v, w1.cell? ⟨w.heap.size, k * 4 + 1, none⟩ = some v := ⟨_, hf.cell (by omega)⟩
      obtain ⟨v2, g2⟩ : ∃ v, w1.cell? ⟨w.heap.size, k * 4 + 2, none⟩ = some v := ⟨_, hf.cell (by omega)⟩
      obtain ⟨v3, g3⟩ : ∃ v, w1.cell? ⟨w.heap.size, k * 4 + 3, none⟩ = some v := ⟨_, hf.cell (by omega)⟩
      have R1 := Hid.mk' (HR.out.step hbl hg hao hrow)
      clear hr1 hf hao hbl hrow KA h1 h2 h3 h4 hg
      go_wp2
      go_roundw
      case rel => exact ⟨k + 1, by omega, by go_num, R1.out⟩
      case measure => simp [intOf]; omega
    · have ci : ¬ (k : Int) < (l.length : Int) := by omega
      have e : k = l.length := by omega
      subst e
      go_wp2
      go_ret
      exact ⟨rfl, HR.out⟩

end Go.Proofs.YtcjnfodkppcpoaaDoor

/- Walks: nodes that are the same are told so. -/
namespace Go.Proofs.YtcjnfodkppcpoaaDoor
open Go.RowKit
set_option linter.unusedVariables false
set_option linter.unusedSimpArgs false

set_option maxHeartbeats 1600000 in
theorem eqNode_any (t : ND) (a b p q : Option Addr) (c d c' d' : Nat) (w : World) (ha : AAt w a t.at_) (hb : AAt w b t.at_) (hp : BAt w p t.tx) (hq : BAt w q t.tx) (hl : (nsz t : Int) ≤ 1048576) :
    Calls Tryd.prog 28 #[.agg #[.int .i64 t.up, .string t.tg, .slice a t.at_.length c, .slice p t.tx.length c'], .agg #[.int .i64 t.up, .string t.tg, .slice b t.at_.length d, .slice q t.tx.length d']] w fun e w' => e = .returned (.bool true) ∧ Below w.heap.size w w' := by
  unfold nsz at hl
  have B0 := ((Below.refl w.heap.size w).alloc (Nat.le_refl _) (.cells #[.int .i64 t.up, .string t.tg, .slice a t.at_.length c, .slice p t.tx.length c'] 49)).alloc (by simp) (.cells #[.int .i64 t.up, .string t.tg, .slice b t.at_.length d, .slice q t.tx.length d'] 49)
  have R1 := (row4 w 49 (.int .i64 t.up) (.string t.tg) (.slice a t.at_.length c) (.slice p t.tx.length c')).alloc (.cells #[.int .i64 t.up, .string t.tg, .slice b t.at_.length d, .slice q t.tx.length d'] 49)
  have R2 := row4 (w.alloc (.cells #[.int .i64 t.up, .string t.tg, .slice a t.at_.length c, .slice p t.tx.length c'] 49)) 49 (.int .i64 t.up) (.string t.tg) (.slice b t.at_.length d) (.slice q t.tx.length d')
  have z1 : (w.alloc (.cells #[.int .i64 t.up, .string t.tg, .slice a t.at_.length c, .slice p t.tx.length c'] 49)).heap.size = w.heap.size + 1 := by simp
  rw [z1] at R2
  have H1 := Hid.mk' R1
  have H2 := Hid.mk' R2
  have KB := Hid.mk' (eqAttrS_any a b c d t.at_ _ (ha.below B0) (hb.below B0) (by omega))
  have HX := Hid.mk' (hp.below B0)
  have HY := Hid.mk' (hq.below B0)
  have HB := Hid.mk' B0
  clear ha hb hp hq B0 R1 R2 z1
  generalize hW : (w.alloc (.cells #[.int .i64 t.up, .string t.tg, .slice a t.at_.length c, .slice p t.tx.length c'] 49)).alloc (.cells #[.int .i64 t.up, .string t.tg, .slice b t.at_.length d, .slice q t.tx.length d'] 49) = W at *
  obtain ⟨p0, p1, p2_, p3, p4⟩ := cells4 H1.out
  obtain ⟨q0, q1, q2, q3, q4⟩ := cells4 H2.out
  go_enter Tryd.func28, Tryd.ntmps28
  go_wp2_with fail
  clear hW p0 p1 p2_ p3 p4 q0 q1 q2 q3 q4
  refine KB.out.mono ?_
  rintro e w1 ⟨rfl, hb⟩
  obtain ⟨p0, p1, p2_, p3, p4⟩ := cells4 (rowB H1.out hb)
  obtain ⟨q0, q1, q2, q3, q4⟩ := cells4 (rowB H2.out hb)
  have KT := Hid.mk' (eqByteS_any p q c' d' t.tx w1 (HX.out.below hb) (HY.out.below hb) (by omega))
  have HB := Hid.mk' (HB.out.trans (hb.mono HB.out.size))
  clear hb KB
  go_wp2_with fail
  refine KT.out.mono ?_
  rintro e w2 ⟨rfl, hb⟩
  have HB := Hid.mk' (HB.out.trans (hb.mono HB.out.size))
  clear hb KT
  go_wp2
  go_ret
  exact ⟨rfl, HB.out⟩

set_option maxHeartbeats 1600000 in
theorem eqNodeS_any (a b : Option Addr) (c d : Nat) (l : List ND) (w : World) (ha : NsAt w a l) (hb : NsAt w b l) (hl : (l.length : Int) + nssz l ≤ 1048576) :
    Calls Tryd.prog 11 #[.slice a l.length c, .slice b l.length d] w fun e w' => e = .returned (.bool true) ∧ Below w.heap.size w w' := by
  have HA := Hid.mk' ha
  have HB := Hid.mk' hb
  clear ha hb
  go_enter Tryd.func11, Tryd.ntmps11
  go_wp2
  go_loopw [5] (fun i wr => ∃ k : Nat, k ≤ l.length ∧ i = .int .i64 k ∧ Below w.heap.size w wr) (fun i _ => l.length - (intOf i).toNat)
  case atStart => exact ⟨0, Nat.zero_le _, rfl, Below.refl _ _⟩
  case round =>
    obtain ⟨k, hk, rfl, hbl⟩ := hrel
    have R2 := Hid.mk' hbl
    by_cases hlt : k < l.length
    · have ci : (k : Int) < (l.length : Int) := by omega
      rcases HA.out.below hbl with ha | ⟨b1, o1, rfl, s1, hc1⟩
      · exact absurd hlt (by rw [ha]; exact Nat.not_lt_zero _)
      rcases HB.out.below hbl with hb | ⟨b2, o2, rfl, s2, hc2⟩
      · exact absurd hlt (by rw [hb]; exact Nat.not_lt_zero _)
      obtain ⟨x1, x2, ⟨p1, d1, x3, _, x4⟩, ⟨p3, d3, x5, x6⟩⟩ := hc1 k hlt
      obtain ⟨y1, y2, ⟨p2_, d2, y3, _, y4⟩, ⟨p4, d4, y5, y6⟩⟩ := hc2 k hlt
      have st := nssz_at hlt
      have KE := Hid.mk' (eqNode_any (ndK l k) p1 p2_ p3 p4 d1 d2 d3 d4 wr.drew (x4.below (Below.refl _ _).drew) (y4.below (Below.refl _ _).drew) (x6.below (Below.refl _ _).drew) (y6.below (Below.refl _ _).drew) (by omega))
      clear hbl hc1 hc2 x4 y4 x6 y6 st
      go_wp2
      go_region_held3 (fun w' => w'.cell? ⟨b1, o1 + k * 4, none⟩ = some (.int .i64 (ndK l k).up) ∧ w'.cell? ⟨b1, o1 + k * 4 + 1, none⟩ = some (.string (ndK l k).tg) ∧ w'.cell? ⟨b1, o1 + k * 4 + 2, none⟩ = some (.slice p1 (ndK l k).at_.length d1) ∧ w'.cell? ⟨b1, o1 + k * 4 + 3, none⟩ = some (.slice p3 (ndK l k).tx.length d3) ∧ w'.cell? ⟨b2, o2 + k * 4, none⟩ = some (.int .i64 (ndK l k).up) ∧ w'.cell? ⟨b2, o2 + k * 4 + 1, none⟩ = some (.string (ndK l k).tg) ∧ w'.cell? ⟨b2, o2 + k * 4 + 2, none⟩ = some (.slice p2_ (ndK l k).at_.length d2) ∧ w'.cell? ⟨b2, o2 + k * 4 + 3, none⟩ = some (.slice p4 (ndK l k).tx.length d4)) (simp [*])
        ((go_at_call 28; refine KE.out.mono ?_; rintro e w1 ⟨rfl, hb1⟩; replace hb1 := undrew hb1; obtain ⟨hx1, hx2⟩ := bcell hb1))
      go_wp2
      go_roundw
      case rel => exact ⟨k + 1, by omega, by go_num, R2.out.trans (hb1.mono R2.out.size)⟩
      case measure => simp [intOf]; omega
    · have ci : ¬ (k : Int) < (l.length : Int) := by omega
      go_wp2
      go_ret
      exact ⟨rfl, R2.out⟩

end Go.Proofs.YtcjnfodkppcpoaaDoor

/- The model's side of a tree's fault: what a node is in, how deep it is, what it is. -/
namespace Go.Proofs.YtcjnfodkppcpoaaDoor
open Go.RowKit
set_option linter.unusedVariables false
set_option linter.unusedSimpArgs false

/-- The Up of the k-th. -/
def upF (l : List ND) (k : Nat) : Int := (ndK l k).up

/-- All ahead of the k-th have an Up that is so. -/
def Ways (l : List ND) (k : Nat) : Prop := ∀ j, j < k → depU (upF l) j < (wayU (upF l) j).length

theorem Ways.good {l : List ND} {k : Nat} (h : Ways l k) : GoodW (upF l) k (wayU (upF l) k) := good_way _ _ h

theorem Ways.mono {l : List ND} {k j : Nat} (h : Ways l k) (hj : j ≤ k) : Ways l j := fun i hi => h i (by omega)

/-- Is the number one of a way? -/
def inW (W : List Int) (x : Int) : Bool := decide (ixF W x < W.length)

set_option maxHeartbeats 800000 in
theorem l6In_any (a : Option Addr) (c : Nat) (l : List ND) (k : Nat) (x : Int) (w : World) (ha : NsAt w a l) (hk : k ≤ l.length) (hW : Ways l k) (hl : (l.length : Int) ≤ 1048576) :
    Calls Tryd.prog 72 #[.slice a l.length c, .int .i64 ((k : Int) - 1), .int .i64 x] w fun e w' => e = .returned (.bool (inW (wayU (upF l) k) x)) ∧ w' = w := by
  have G := hW.good
  have HG := Hid.mk' G
  obtain ⟨W, hWe⟩ : ∃ W, wayU (upF l) k = W := ⟨_, rfl⟩
  rw [hWe] at HG G
  rw [hWe]
  have e0 := G.last
  have l0 := G.ne
  clear hWe G hW
  rw [← e0]
  go_enter Tryd.func72, Tryd.ntmps72
  go_wp2
  go_loop [1] (fun i => ∃ p : Nat, p < W.length ∧ i = .int .i64 (wv W p) ∧ ∀ q, p < q → q < W.length → ¬ wv W q = x) (fun i => (intOf i + 1).toNat)
  case atStart => exact ⟨W.length - 1, by omega, rfl, fun q h1 h2 => by omega⟩
  case round =>
    obtain ⟨p, hp, rfl, hn⟩ := hrel
    have HN := Hid.mk' hn
    have lo := HG.out.lo hp
    have hi := HG.out.hi hp
    clear hn e0
    by_cases e : wv W p = x
    · have E : Hid (inW W x = true) := Hid.mk' (by
        unfold inW
        rw [← e, HG.out.ix hp]
        exact decide_eq_true hp)
      by_cases c1 : wv W p ≥ 0
      · go_wp2
        go_ret
        exact ⟨by rw [E.out]; simp [e], rfl⟩
      · go_wp2
        go_ret
        exact ⟨by rw [E.out]; simp [e], rfl⟩
    · by_cases c1 : wv W p ≥ 0
      · have hp0 : 0 < p := by
          rcases Nat.eq_zero_or_pos p with h | h
          · subst h; rw [HG.out.hd] at c1; omega
          · exact h
        obtain ⟨h0, h1, h2⟩ := HG.out.ch (p - 1) (by omega)
        rw [show p - 1 + 1 = p by omega] at h0 h1 h2
        obtain ⟨m, hm⟩ : ∃ m : Nat, wv W p = (m : Int) := ⟨(wv W p).toNat, by omega⟩
        rw [hm] at e c1 hi h0 h1 h2 ⊢
        rw [Int.toNat_natCast] at h1
        have hml : m < l.length := by omega
        rcases ha with ha | ⟨b, o, rfl, hbs, hc⟩
        · rw [ha] at hml; exact absurd hml (Nat.not_lt_zero _)
        obtain ⟨q1, _⟩ := hc m hml
        have ci : (m : Int) < (l.length : Int) := by omega
        have H1 := Hid.mk' h1
        have H2 := Hid.mk' h2
        have q1' : w.cell? ⟨b, o + m * 4, none⟩ = some (.int .i64 (wv W (p - 1))) := by rw [q1, h1]; rfl
        have EP := Hid.mk' hm
        have EX := Hid.mk' e
        clear hc q1 h1 h2 lo hm
        go_wp2
        go_round
        case rel => exact ⟨p - 1, by omega, rfl, fun q h3 h4 => by
          by_cases h : q = p
          · subst h; rw [EP.out]; exact EX.out
          · exact HN.out q (by omega) h4⟩
        case measure =>
          have h1 := H2.out
          have h2 := HG.out.lo (i := p - 1) (by omega)
          simp only [intOf]; omega
      · have hp0 : p = 0 := by
          rcases Nat.eq_zero_or_pos p with h | h
          · exact h
          · exact absurd (HG.out.pos h hp) c1
        subst hp0
        have E : Hid (inW W x = false) := Hid.mk' (by
          unfold inW
          rw [ixF_none W x (fun j hj => by
            by_cases h : j = 0
            · subst h; exact e
            · exact HN.out j (by omega) hj)]
          exact decide_eq_false (by omega))
        go_wp2
        go_ret
        exact ⟨by rw [E.out]; simp [e], rfl⟩

set_option maxHeartbeats 800000 in
theorem l6Depth_any (a : Option Addr) (c : Nat) (l : List ND) (k : Nat) (w : World) (ha : NsAt w a l) (hk : k < l.length) (hW : Ways l k) (hd : depU (upF l) k < (wayU (upF l) k).length) (hl : (l.length : Int) ≤ 1048576) :
    Calls Tryd.prog 73 #[.slice a l.length c, .int .i64 (k : Int)] w fun e w' => e = .returned (.int .i64 (depU (upF l) k : Int)) ∧ w' = w := by
  have G := hW.good
  have hat : wv (wayU (upF l) k) (depU (upF l) k) = (ndK l k).up := ixF_at hd
  obtain ⟨W, hWe⟩ : ∃ W, wayU (upF l) k = W := ⟨_, rfl⟩
  obtain ⟨d, hde⟩ : ∃ d, depU (upF l) k = d := ⟨_, rfl⟩
  rw [hWe] at G hat hd
  rw [hde] at hat hd
  rw [hde]
  have HG := Hid.mk' G
  have hle := G.le
  clear hWe hde G hW
  rcases ha with ha | ⟨b, o, rfl, hbs, hc⟩
  · rw [ha] at hk; exact absurd hk (Nat.not_lt_zero _)
  obtain ⟨q1, _⟩ := hc k hk
  rw [← hat] at q1
  have HC := Hid.mk' hc
  have ck : (k : Int) < (l.length : Int) := by omega
  clear hat hc
  go_enter Tryd.func73, Tryd.ntmps73
  go_wp2
  go_loop [1, 5] (fun i n => ∃ p : Nat, p ≤ d ∧ i = .int .i64 (wv W p) ∧ n = .int .i64 ((d - p : Nat) : Int)) (fun i _ => (intOf i + 1).toNat)
  case atStart => exact ⟨d, Nat.le_refl _, rfl, by simp⟩
  case round =>
    obtain ⟨p, hp, rfl, rfl⟩ := hrel
    have lo := HG.out.lo (i := p) (by omega)
    have hi := HG.out.hi (i := p) (by omega)
    by_cases c1 : wv W p ≥ 0
    · have hp0 : 0 < p := by
        rcases Nat.eq_zero_or_pos p with h | h
        · subst h; rw [HG.out.hd] at c1; omega
        · exact h
      obtain ⟨h0, h1, h2⟩ := HG.out.ch (p - 1) (by omega)
      rw [show p - 1 + 1 = p by omega] at h0 h1 h2
      obtain ⟨m, hm⟩ : ∃ m : Nat, wv W p = (m : Int) := ⟨(wv W p).toNat, by omega⟩
      rw [hm] at c1 hi h0 h1 h2 ⊢
      rw [Int.toNat_natCast] at h1
      have hml : m < l.length := by omega
      obtain ⟨q2, _⟩ := HC.out m hml
      have ci : (m : Int) < (l.length : Int) := by omega
      have H1 := Hid.mk' h1
      have H2 := Hid.mk' h2
      have q2' : w.cell? ⟨b, o + m * 4, none⟩ = some (.int .i64 (wv W (p - 1))) := by rw [q2, h1]; rfl
      clear q2 h1 h2 lo hm q1
      go_wp2
      go_round
      case rel => exact ⟨p - 1, by omega, rfl, by go_num⟩
      case measure =>
        have h1 := H2.out
        have h2 := HG.out.lo (i := p - 1) (by omega)
        simp only [intOf]; omega
    · have hp0 : p = 0 := by
        rcases Nat.eq_zero_or_pos p with h | h
        · exact h
        · exact absurd (HG.out.pos h (by omega)) c1
      subst hp0
      go_wp2
      go_ret
      exact ⟨rfl, rfl⟩

/-- An element or a text. -/
def kindB (t : ND) : Bool := if (t.tg.toList == []) = true then decide (t.at_.length = 0) && decide (1 ≤ (t.tx.length : Int)) && decide ((t.tx.length : Int) ≤ 240) else decide (t.tx.length = 0)

set_option maxHeartbeats 1600000 in
theorem l6Kind_any (t : ND) (b o : Nat) (p p' : Option Addr) (d d' : Nat) (w : World) (h1 : w.cell? ⟨b, o + 1, none⟩ = some (.string t.tg)) (h2 : w.cell? ⟨b, o + 2, none⟩ = some (.slice p t.at_.length d)) (h3 : w.cell? ⟨b, o + 3, none⟩ = some (.slice p' t.tx.length d')) :
    Calls Tryd.prog 69 #[.pointer (some ⟨b, o, none⟩)] w fun e w' => e = .returned (.bool (kindB t)) ∧ w' = w := by
  obtain ⟨n, hn⟩ : ∃ n, t.at_.length = n := ⟨_, rfl⟩
  obtain ⟨m, hm⟩ : ∃ m, t.tx.length = m := ⟨_, rfl⟩
  have E : kindB t = if (t.tg.toList == []) = true then decide (n = 0) && decide (1 ≤ (m : Int)) && decide ((m : Int) ≤ 240) else decide (m = 0) := by
    unfold kindB
    rw [hm, hn]
  rw [hn] at h2
  rw [hm] at h3
  rw [E]
  clear E hn hm
  cases e1 : (t.tg.toList == [])
  · by_cases e2 : (m : Int) = 0
    all_goals
      go_enter Tryd.func69, Tryd.ntmps69
      go_wp2_with go_big_skip
      go_ret
      exact ⟨by first | (simp; done) | (simp; omega) | (have h0 : ¬ m = 0 := (by omega); simp [h0, e2]; done), rfl⟩
  · by_cases e2 : (n : Int) = 0
    · by_cases e3 : (m : Int) ≥ 1
      · by_cases e4 : (m : Int) ≤ 240
        all_goals
          go_enter Tryd.func69, Tryd.ntmps69
          go_wp2_with go_big_skip
          go_ret
          exact ⟨by first | (simp; done) | (simp; omega) | (have h0 : ¬ m = 0 := (by omega); simp [h0, e2]; done), rfl⟩
      · go_enter Tryd.func69, Tryd.ntmps69
        go_wp2_with go_big_skip
        go_ret
        exact ⟨by first | (simp; done) | (simp; omega) | (have h0 : ¬ m = 0 := (by omega); simp [h0, e2]; done), rfl⟩
    · go_enter Tryd.func69, Tryd.ntmps69
      go_wp2_with go_big_skip
      go_ret
      exact ⟨by first | (simp; done) | (simp; omega) | (have h0 : ¬ m = 0 := (by omega); simp [h0, e2]; done), rfl⟩

end Go.Proofs.YtcjnfodkppcpoaaDoor

/- The code of a tree, as one function. -/
namespace Go.Proofs.YtcjnfodkppcpoaaDoor
open Go.RowKit
set_option linter.unusedVariables false
set_option linter.unusedSimpArgs false

/-- What is wrong with a node by itself. -/
def markF (t : ND) : Int := if kindB t = true then (if (t.tg.toList == []) = true then 0 else if nmB t.tg = true then afault t.at_ else 5) else 1

/-- May others be in it? -/
def holdB (t : ND) : Bool := !(t.tg.toList == []) && !voidB t.tg

/-- A text right behind a text. -/
def sideB (l : List ND) (k : Nat) : Bool := decide (0 < k) && ((ndK l k).tg.toList == []) && ((ndK l (k - 1)).tg.toList == []) && decide ((ndK l (k - 1)).up = (ndK l k).up)

/-- What is wrong with its place. -/
def placeF (l : List ND) (k : Nat) : Int :=
  if depU (upF l) k < (wayU (upF l) k).length then
    (if 0 ≤ (ndK l k).up ∧ holdB (ndK l (ndK l k).up.toNat) = false then 1
     else if sideB l k = true then 1 else if 8 ≤ depU (upF l) k then 2 else 0)
  else 3

/-- The code of the k-th. -/
def oneF (l : List ND) (k : Nat) : Int := if markF (ndK l k) = 0 then placeF l k else markF (ndK l k)

/-- The code of a tree. -/
def treeF (l : List ND) : Int := if 60 < l.length then 2 else firstF (oneF l) l.length 0

theorem inW_iff (l : List ND) (k : Nat) : inW (wayU (upF l) k) (ndK l k).up = decide (depU (upF l) k < (wayU (upF l) k).length) := rfl

theorem oneF_dep {l : List ND} {k : Nat} (h : oneF l k = 0) : depU (upF l) k < (wayU (upF l) k).length := by
  unfold oneF at h
  split at h
  · unfold placeF at h
    split at h
    · assumption
    · exact absurd h (by decide)
  · contradiction

theorem ways_of {l : List ND} {k : Nat} (h : ∀ j, j < k → oneF l j = 0) : Ways l k := fun j hj => oneF_dep (h j hj)

theorem oneF_mark {l : List ND} {k : Nat} {c : Int} (h : markF (ndK l k) = c) (hc : ¬ c = 0) : oneF l k = c := by
  unfold oneF; rw [h, if_neg hc]

theorem oneF_place {l : List ND} {k : Nat} (h : markF (ndK l k) = 0) : oneF l k = placeF l k := by
  unfold oneF; rw [if_pos h]

theorem treeF_len {l : List ND} (h : treeF l = 0) : l.length ≤ 60 := by
  unfold treeF at h
  split at h
  · exact absurd h (by decide)
  · omega

theorem firstF_zero (f : Nat → Int) : ∀ (n i : Nat), firstF f n i = 0 → ∀ j, j < n → f (i + j) = 0
  | 0, _, _, j, hj => absurd hj (Nat.not_lt_zero _)
  | n + 1, i, h, j, hj => by
    unfold firstF at h
    split at h
    · rename_i h0
      cases j with
      | zero => exact h0
      | succ j => rw [show i + (j + 1) = i + 1 + j by omega]; exact firstF_zero f n (i + 1) h j (by omega)
    · contradiction

theorem treeF_ones {l : List ND} (h : treeF l = 0) : ∀ j, j < l.length → oneF l j = 0 := by
  have hl := treeF_len h
  unfold treeF at h
  rw [if_neg (by omega)] at h
  intro j hj
  have := firstF_zero _ _ _ h j hj
  rwa [Nat.zero_add] at this

theorem treeF_ways {l : List ND} (h : treeF l = 0) : Ways l l.length := ways_of (treeF_ones h)

theorem treeF_hit {l : List ND} {k : Nat} {c : Int} (hl : ¬ 60 < l.length) (hk : k < l.length) (hz : ∀ j, j < k → oneF l j = 0) (hc : oneF l k = c) (h0 : ¬ c = 0) : treeF l = c := by
  unfold treeF
  rw [if_neg hl, firstF_hit (oneF l) l.length 0 k hk (fun j hj => by rw [Nat.zero_add]; exact hz j hj) (by rw [Nat.zero_add, hc]; exact h0), Nat.zero_add, hc]

theorem treeF_none {l : List ND} (hl : ¬ 60 < l.length) (hz : ∀ j, j < l.length → oneF l j = 0) : treeF l = 0 := by
  unfold treeF
  rw [if_neg hl, firstF_none _ _ _ (fun j hj => by rw [Nat.zero_add]; exact hz j hj)]

/-- What is asked of a place of a tree. -/
def askF (l : List ND) (x : Int) : Int := if treeF l = 0 then (if 0 ≤ x ∧ x < (l.length : Int) then 0 else 3) else treeF l

/-- Where all ends that is deeper than the a-th. -/
def endU (d : Nat → Nat) (a : Nat) : Nat → Nat → Nat
  | 0, e => e
  | n + 1, e => if d a < d e then endU d a n (e + 1) else e

theorem endU_step {d : Nat → Nat} {a n e : Nat} (h : e < n) (hd : d a < d e) : endU d a (n - e) e = endU d a (n - (e + 1)) (e + 1) := by
  obtain ⟨m, hm⟩ : ∃ m, n - e = m + 1 := ⟨n - e - 1, by omega⟩
  rw [hm, show n - (e + 1) = m by omega]
  show (if d a < d e then endU d a m (e + 1) else e) = _
  rw [if_pos hd]

theorem endU_stop {d : Nat → Nat} {a n e : Nat} (hd : ¬ d a < d e) : endU d a n e = e := by
  cases n with
  | zero => rfl
  | succ n => show (if d a < d e then endU d a n (e + 1) else e) = _; rw [if_neg hd]

theorem endU_all {d : Nat → Nat} {a n e : Nat} (h : n ≤ e) : endU d a (n - e) e = e := by
  rw [show n - e = 0 by omega]; rfl

/-- The place behind all that is in the a-th. -/
def endN (l : List ND) (a : Nat) : Nat := endU (depU (upF l)) a (l.length - (a + 1)) (a + 1)

end Go.Proofs.YtcjnfodkppcpoaaDoor
