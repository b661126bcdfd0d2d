/- Ways: the places that a place is in, the outermost first. -/
import Derived.WalkKit
import Derived.Test.YtpncbcmngfpkfaaU1
import Derived.Laws.CopyOwn
import Derived.Deep.MidRow
import Derived.Laws.BytesString
import Derived.Laws.IdiomStrings
namespace Go.Proofs.Ytpncbcmngfpkfaa
set_option linter.unusedVariables false

/-- The i-th of numbers. -/
def wv (l : List Int) (i : Nat) : Int := l.getD i 0

theorem wv_get {l : List Int} {i : Nat} (h : i < l.length) : l[i]? = some (wv l i) := by simp [wv, h]
theorem wv_take {l : List Int} {i n : Nat} (h : i < n) : wv (l.take n) i = wv l i := by
  unfold wv
  rw [List.getD_eq_getElem?_getD, List.getD_eq_getElem?_getD, List.getElem?_take_of_lt h]
theorem wv_left {l m : List Int} {i : Nat} (h : i < l.length) : wv (l ++ m) i = wv l i := by
  unfold wv
  rw [List.getD_eq_getElem?_getD, List.getD_eq_getElem?_getD, List.getElem?_append_left h]
theorem wv_end {l : List Int} {x : Int} : wv (l ++ [x]) l.length = x := by simp [wv]

/-- Where a number stands; their number, if nowhere. -/
def ixF : List Int → Int → Nat
  | [], _ => 0
  | x :: r, y => if x = y then 0 else ixF r y + 1

theorem ixF_le (l : List Int) (y : Int) : ixF l y ≤ l.length := by
  induction l with
  | nil => simp [ixF]
  | cons x r ih => unfold ixF; split <;> simp <;> omega

theorem ixF_at {l : List Int} {y : Int} (h : ixF l y < l.length) : wv l (ixF l y) = y := by
  induction l with
  | nil => simp at h
  | cons x r ih =>
    unfold ixF at h ⊢
    by_cases e : x = y
    · rw [if_pos e]; exact e
    · rw [if_neg e] at h ⊢
      have := ih (by simpa using h)
      unfold wv at this ⊢
      simpa using this

theorem ixF_found : ∀ (l : List Int) (y : Int) (k : Nat), k < l.length → (∀ j, j < k → ¬ wv l j = y) → wv l k = y → ixF l y = k
  | [], _, _, h, _, _ => absurd h (Nat.not_lt_zero _)
  | x :: r, y, 0, _, _, e => by
    have : x = y := e
    unfold ixF; rw [if_pos this]
  | x :: r, y, k + 1, h, hn, e => by
    have h0 : ¬ x = y := hn 0 (by omega)
    have := ixF_found r y k (by simpa using h) (fun j hj => by have := hn (j + 1) (by omega); simpa [wv] using this) (by simpa [wv] using e)
    unfold ixF; rw [if_neg h0, this]

theorem ixF_none : ∀ (l : List Int) (y : Int), (∀ j, j < l.length → ¬ wv l j = y) → ixF l y = l.length
  | [], _, _ => rfl
  | x :: r, y, hn => by
    have h0 : ¬ x = y := hn 0 (by simp)
    have := ixF_none r y (fun j hj => by have := hn (j + 1) (by simpa using hj); simpa [wv] using this)
    unfold ixF; rw [if_neg h0, this]; rfl

/-- The way to the k-th: -1, all that the one ahead is in, and that one. -/
def wayU (u : Nat → Int) : Nat → List Int
  | 0 => [-1]
  | k + 1 => (wayU u k).take (ixF (wayU u k) (u k) + 1) ++ [(k : Int)]

/-- How many the k-th is in. -/
def depU (u : Nat → Int) (k : Nat) : Nat := ixF (wayU u k) (u k)

/-- A way that goes up step by step. -/
structure GoodW (u : Nat → Int) (k : Nat) (l : List Int) : Prop where
  ne : 0 < l.length
  le : l.length ≤ k + 1
  hd : wv l 0 = -1
  last : wv l (l.length - 1) = (k : Int) - 1
  ch : ∀ i, i + 1 < l.length → 0 ≤ wv l (i + 1) ∧ wv l i = u (wv l (i + 1)).toNat ∧ wv l i < wv l (i + 1)

theorem GoodW.mono {u : Nat → Int} {k : Nat} {l : List Int} (h : GoodW u k l) {i : Nat} : ∀ {j}, i < j → j < l.length → wv l i < wv l j
  | 0, hi, _ => absurd hi (Nat.not_lt_zero _)
  | j + 1, hi, hj => by
    have h1 := (h.ch j hj).2.2
    by_cases e : i = j
    · subst e; exact h1
    · have := h.mono (i := i) (j := j) (by omega) (by omega)
      omega

theorem GoodW.lo {u : Nat → Int} {k : Nat} {l : List Int} (h : GoodW u k l) {i : Nat} (hi : i < l.length) : -1 ≤ wv l i := by
  by_cases e : i = 0
  · subst e; rw [h.hd]; omega
  · have := h.mono (i := 0) (j := i) (by omega) hi
    rw [h.hd] at this; omega

theorem GoodW.pos {u : Nat → Int} {k : Nat} {l : List Int} (h : GoodW u k l) {i : Nat} (h0 : 0 < i) (hi : i < l.length) : 0 ≤ wv l i := by
  have := h.mono (i := 0) (j := i) h0 hi
  rw [h.hd] at this; omega

theorem GoodW.hi {u : Nat → Int} {k : Nat} {l : List Int} (h : GoodW u k l) {i : Nat} (hi : i < l.length) : wv l i < k := by
  by_cases e : i = l.length - 1
  · subst e; rw [h.last]; omega
  · have := h.mono (i := i) (j := l.length - 1) (by omega) (by omega)
    rw [h.last] at this; omega

theorem GoodW.one {u : Nat → Int} {k : Nat} {l : List Int} (h : GoodW u k l) {i j : Nat} (hi : i < l.length) (hj : j < l.length) (e : wv l i = wv l j) : i = j := by
  by_cases c : i < j
  · have := h.mono c hj; omega
  · by_cases c' : j < i
    · have := h.mono c' hi; omega
    · omega

theorem GoodW.ix {u : Nat → Int} {k : Nat} {l : List Int} (h : GoodW u k l) {i : Nat} (hi : i < l.length) : ixF l (wv l i) = i :=
  ixF_found l _ i hi (fun j hj e => by have := h.one (by omega) hi e; omega) rfl

theorem good_way (u : Nat → Int) : ∀ k, (∀ j, j < k → depU u j < (wayU u j).length) → GoodW u k (wayU u k)
  | 0, _ => ⟨by simp [wayU], by simp [wayU], rfl, by simp [wayU, wv], fun i hi => by simp [wayU] at hi⟩
  | k + 1, h => by
    have G := good_way u k (fun j hj => h j (by omega))
    have hd : depU u k < (wayU u k).length := h k (by omega)
    have hat : wv (wayU u k) (depU u k) = u k := ixF_at hd
    have e : wayU u (k + 1) = (wayU u k).take (depU u k + 1) ++ [(k : Int)] := rfl
    have ln : ((wayU u k).take (depU u k + 1)).length = depU u k + 1 := by rw [List.length_take]; omega
    have L : (wayU u (k + 1)).length = depU u k + 2 := by rw [e, List.length_append, ln]; rfl
    have lo : ∀ i, i < depU u k + 1 → wv (wayU u (k + 1)) i = wv (wayU u k) i := fun i hi => by
      rw [e, wv_left (by omega), wv_take hi]
    have en : wv (wayU u (k + 1)) (depU u k + 1) = (k : Int) := by
      rw [e, show depU u k + 1 = ((wayU u k).take (depU u k + 1)).length from ln.symm, ln]
      have := wv_end (l := (wayU u k).take (depU u k + 1)) (x := (k : Int))
      rw [ln] at this; exact this
    refine ⟨by omega, by have := G.le; omega, ?_, ?_, fun i hi => ?_⟩
    · rw [lo 0 (by omega), G.hd]
    · rw [L, show depU u k + 2 - 1 = depU u k + 1 by omega, en]; omega
    · rw [L] at hi
      by_cases c : i = depU u k
      · subst c
        rw [en, lo _ (by omega), hat]
        have := G.hi hd
        rw [hat] at this
        exact ⟨by omega, by rw [Int.toNat_natCast], this⟩
      · rw [lo i (by omega), lo (i + 1) (by omega)]
        exact G.ch i (by omega)

/-- The way to the next one, step by step. -/
theorem way_succ (u : Nat → Int) (k : Nat) (hd : depU u k < (wayU u k).length) : (wayU u (k + 1)).length = depU u k + 2 ∧ (∀ i, i < depU u k + 1 → wv (wayU u (k + 1)) i = wv (wayU u k) i) ∧ wv (wayU u (k + 1)) (depU u k + 1) = (k : Int) := by
  have e : wayU u (k + 1) = (wayU u k).take (depU u k + 1) ++ [(k : Int)] := rfl
  have ln : ((wayU u k).take (depU u k + 1)).length = depU u k + 1 := by rw [List.length_take]; omega
  refine ⟨by rw [e, List.length_append, ln]; rfl, fun i hi => by rw [e, wv_left (by omega), wv_take hi], ?_⟩
  have := wv_end (l := (wayU u k).take (depU u k + 1)) (x := (k : Int))
  rw [ln] at this; rw [e]; exact this

/-- What is in a place is deeper, and stands right behind it. -/
theorem in_iff (u : Nat → Int) (n : Nat) (h : ∀ j, j < n → depU u j < (wayU u j).length) {a e : Nat} (hae : a < e) (hen : e < n) (hin : wv (wayU u e) (depU u a + 1) = a ∧ depU u a + 1 < (wayU u e).length) :
    (depU u a < depU u e → wv (wayU u (e + 1)) (depU u a + 1) = a ∧ depU u a + 1 < (wayU u (e + 1)).length) ∧ (¬ depU u a < depU u e → ∀ i, i < (wayU u (e + 1)).length → ¬ wv (wayU u (e + 1)) i = a) := by
  obtain ⟨L, lo, en⟩ := way_succ u e (h e hen)
  have G := good_way u e (fun j hj => h j (by omega))
  refine ⟨fun c => ⟨by rw [lo _ (by omega)]; exact hin.1, by omega⟩, fun c i hi eq => ?_⟩
  by_cases c1 : i = depU u e + 1
  · subst c1; rw [en] at eq; omega
  · rw [lo i (by omega)] at eq
    have he := h e hen
    have := G.one (i := i) (j := depU u a + 1) (by omega) hin.2 (by rw [eq, hin.1])
    omega

/-- The first that is not 0, out of n, from k on. -/
def firstF (f : Nat → Int) : Nat → Nat → Int
  | 0, _ => 0
  | n + 1, k => if f k = 0 then firstF f n (k + 1) else f k

theorem firstF_hit (f : Nat → Int) : ∀ (n i k : Nat), k < n → (∀ j, j < k → f (i + j) = 0) → ¬ f (i + k) = 0 → firstF f n i = f (i + k)
  | 0, _, _, h, _, _ => absurd h (Nat.not_lt_zero _)
  | n + 1, i, 0, _, _, hk => by unfold firstF; rw [if_neg (by simpa using hk)]; rfl
  | n + 1, i, k + 1, h, hz, hk => by
    have h0 : f i = 0 := by simpa using hz 0 (by omega)
    unfold firstF
    rw [if_pos h0, firstF_hit f n (i + 1) k (by omega) (fun j hj => by have := hz (j + 1) (by omega); rw [show i + 1 + j = i + (j + 1) by omega]; exact this) (by rw [show i + 1 + k = i + (k + 1) by omega]; exact hk)]
    rw [show i + 1 + k = i + (k + 1) by omega]

theorem firstF_none (f : Nat → Int) : ∀ (n i : Nat), (∀ j, j < n → f (i + j) = 0) → firstF f n i = 0
  | 0, _, _ => rfl
  | n + 1, i, hz => by
    have h0 : f i = 0 := by simpa using hz 0 (by omega)
    unfold firstF
    rw [if_pos h0]
    exact firstF_none f n (i + 1) (fun j hj => by have := hz (j + 1) (by omega); rw [show i + 1 + j = i + (j + 1) by omega]; exact this)

end Go.Proofs.Ytpncbcmngfpkfaa

/- Void tags: both sides, and the law on IsVoid. -/
namespace Go.Proofs.Ytpncbcmngfpkfaa
open Go.RowKit
set_option linter.unusedVariables false

/-- br or img. -/
def voidB (s : ByteArray) : Bool := (s.toList == [98, 114]) || (s.toList == [105, 109, 103])

theorem l6Void_any (s : ByteArray) (w : World) :
    Calls Try.prog 45 #[.string s] w fun e w' => e = .returned (.bool (voidB s)) ∧ w' = w := by
  cases h1 : (s.toList == [98, 114])
  · cases h2 : (s.toList == [105, 109, 103])
    all_goals go_enter Try.func45, Try.ntmps45
    all_goals go_wp2
    all_goals go_ret
    all_goals exact ⟨by simp [voidB, h1, h2], rfl⟩
  · go_enter Try.func45, Try.ntmps45
    go_wp2
    go_ret
    exact ⟨by simp [voidB, h1], rfl⟩

theorem implVoid_any (s : ByteArray) (w : World) :
    Calls Try.prog 51 #[.string s] w fun e w' => e = .returned (.bool (voidB s)) ∧ w' = w := by
  cases h1 : (s.toList == [98, 114])
  · cases h2 : (s.toList == [105, 109, 103])
    all_goals go_enter Try.func51, Try.ntmps51
    all_goals go_wp2
    all_goals go_ret
    all_goals exact ⟨by simp [voidB, h1, h2], rfl⟩
  · go_enter Try.func51, Try.ntmps51
    go_wp2
    go_ret
    exact ⟨by simp [voidB, h1], rfl⟩

end Go.Proofs.Ytpncbcmngfpkfaa

/- Lists of nodes that lie in memory; their sizes. -/
namespace Go.Proofs.Ytpncbcmngfpkfaa
open Go.RowKit
set_option linter.unusedVariables false
set_option linter.unusedSimpArgs false

/-- A node. -/
structure ND where
  up : Int
  tg : ByteArray
  at_ : List AT
  tx : List Int

/-- The k-th of nodes. -/
def ndK (l : List ND) (k : Nat) : ND := l.getD k ⟨0, ⟨#[]⟩, [], []⟩

/-- Nodes lie at an address. -/
def NsAt (w : World) (a : Option Addr) (l : List ND) : Prop :=
  l = [] ∨ ∃ b o, a = some ⟨b, o, none⟩ ∧ b < w.heap.size ∧ ∀ k, k < l.length → w.cell? ⟨b, o + k * 4, none⟩ = some (.int .i64 (ndK l k).up) ∧ w.cell? ⟨b, o + k * 4 + 1, none⟩ = some (.string (ndK l k).tg) ∧ (∃ p c, w.cell? ⟨b, o + k * 4 + 2, none⟩ = some (.slice p (ndK l k).at_.length c) ∧ (ndK l k).at_.length ≤ c ∧ AAt w p (ndK l k).at_) ∧ (∃ p c, w.cell? ⟨b, o + k * 4 + 3, none⟩ = some (.slice p (ndK l k).tx.length c) ∧ BAt w p (ndK l k).tx)

theorem NsAt.below {w w' : World} {a : Option Addr} {l : List ND} (h : NsAt w a l) (hb : Below w.heap.size w w') : NsAt w' a l := by
  rcases h with h | ⟨b, o, e, hs, hc⟩
  · exact .inl h
  · refine .inr ⟨b, o, e, Nat.lt_of_lt_of_le hs hb.size, fun k hk => ?_⟩
    obtain ⟨h1, h2, ⟨p, c, h3, h4, h5⟩, ⟨p', c', h6, h7⟩⟩ := hc k hk
    exact ⟨(hb.cell hs).trans h1, (hb.cell hs).trans h2, ⟨p, c, (hb.cell hs).trans h3, h4, h5.below hb⟩, ⟨p', c', (hb.cell hs).trans h6, h7.below hb⟩⟩

/-- The size of a node, and of nodes. -/
def nsz (t : ND) : Nat := t.tg.size + t.at_.length + asz t.at_ + t.tx.length
def nssz : List ND → Nat
  | [] => 0
  | x :: r => nsz x + nssz r

theorem nssz_take (l : List ND) : ∀ k, k < l.length → nssz (l.take (k + 1)) = nssz (l.take k) + nsz (ndK l k) := by
  induction l with
  | nil => intro k h; exact absurd h (Nat.not_lt_zero _)
  | cons x r ih =>
    intro k hk
    cases k with
    | zero => simp [nssz, ndK]
    | succ k =>
      have := ih k (by simpa using hk)
      simp only [List.take_succ_cons, nssz]
      rw [this]
      have e : ndK (x :: r) (k + 1) = ndK r k := by simp [ndK]
      rw [e]; omega

theorem nssz_le (l : List ND) (k : Nat) : nssz (l.take k) ≤ nssz l := by
  induction l generalizing k with
  | nil => simp [nssz]
  | cons x r ih =>
    cases k with
    | zero => simp [nssz]
    | succ k => simp only [List.take_succ_cons, nssz]; have := ih k; omega

theorem nssz_at {l : List ND} {k : Nat} (h : k < l.length) : nsz (ndK l k) ≤ nssz l := by
  have h1 := nssz_take l k h
  have h2 := nssz_le l (k + 1)
  omega

set_option maxHeartbeats 800000 in
theorem szNode_gen (t : ND) (a p : Option Addr) (c d : Nat) (z : Int) (w : World) (ha : AAt w a t.at_) (hw : Wide t.at_) (hn : (t.tg.size : Int) ≤ 9223372036854775807) (hl : (t.at_.length : Int) ≤ 9223372036854775807) (hx : (t.tx.length : Int) ≤ 9223372036854775807) (h0 : 0 ≤ z) (h1 : z ≤ 1048576) :
    Calls Try.prog 24 #[.agg #[.int .i64 t.up, .string t.tg, .slice a t.at_.length c, .slice p t.tx.length d], .int .i64 z] w fun e w' => e = .returned (.int .i64 (if z < (nsz t : Int) then -1 else z - nsz t)) ∧ Below w.heap.size w w' := by
  unfold nsz
  by_cases g1 : z < (t.tg.size : Int)
  · rw [if_pos (by omega)]
    go_enter Try.func24, Try.ntmps24
    go_wp2
    go_ret
    exact ⟨rfl, (Below.refl _ _).alloc (Nat.le_refl _) _⟩
  have N0 := below_new w (.cells #[.int .i64 t.up, .string t.tg, .slice a t.at_.length c, .slice p t.tx.length d] 54)
  have KA := Hid.mk' (szAttrS_any a c t.at_ (z - (t.tg.size : Int)) _ (ha.below N0) hw (by omega) (by omega) hl)
  have HP := Hid.mk' (row4 w 54 (.int .i64 t.up) (.string t.tg) (.slice a t.at_.length c) (.slice p t.tx.length d))
  have HB := Hid.mk' N0
  clear N0 ha hw
  by_cases g2 : z - (t.tg.size : Int) < (t.at_.length : Int) + asz t.at_
  · rw [if_pos g2] at KA
    rw [if_pos (by omega)]
    go_enter Try.func24, Try.ntmps24
    go_wp2_with fail
    refine KA.out.mono ?_
    rintro e w1 ⟨rfl, hb⟩
    have HB := Hid.mk' (HB.out.trans (hb.mono HB.out.size))
    clear hb KA
    go_wp2
    go_ret
    exact ⟨rfl, HB.out⟩
  · rw [if_neg g2] at KA
    have gy : ¬ (z - (t.tg.size : Int) - t.at_.length - asz t.at_ < 0) := by omega
    by_cases g3 : z - (t.tg.size : Int) - t.at_.length - asz t.at_ < (t.tx.length : Int)
    · rw [if_pos (by omega)]
      go_enter Try.func24, Try.ntmps24
      go_wp2_with fail
      refine KA.out.mono ?_
      rintro e w1 ⟨rfl, hb⟩
      obtain ⟨c0, c1, c2, c3, c4⟩ := cells4 (rowB HP.out hb)
      have HB := Hid.mk' (HB.out.trans (hb.mono HB.out.size))
      clear hb KA
      go_wp2_with (go_at_call 42; refine (szByteS_any _ _ _ _ _ (by omega) (by omega) (by omega)).mono ?_; rintro e w' ⟨rfl, rfl⟩)
      go_ret
      exact ⟨rfl, HB.out⟩
    · rw [if_neg (by omega)]
      go_enter Try.func24, Try.ntmps24
      go_wp2_with fail
      refine KA.out.mono ?_
      rintro e w1 ⟨rfl, hb⟩
      obtain ⟨c0, c1, c2, c3, c4⟩ := cells4 (rowB HP.out hb)
      have HB := Hid.mk' (HB.out.trans (hb.mono HB.out.size))
      clear hb KA
      go_wp2_with (go_at_call 42; refine (szByteS_any _ _ _ _ _ (by omega) (by omega) (by omega)).mono ?_; rintro e w' ⟨rfl, rfl⟩)
      go_ret
      exact ⟨by congr 2; simp; omega, HB.out⟩

/-- Nothing in them is wider than a machine's. -/
def WideN (l : List ND) : Prop := ∀ k, k < l.length → Wide (ndK l k).at_ ∧ ((ndK l k).tg.size : Int) ≤ 9223372036854775807 ∧ ((ndK l k).at_.length : Int) ≤ 9223372036854775807 ∧ ((ndK l k).tx.length : Int) ≤ 9223372036854775807

set_option maxHeartbeats 1600000 in
theorem szNodeS_any (a : Option Addr) (c : Nat) (l : List ND) (z : Int) (w : World) (ha : NsAt w a l) (hw : WideN l) (h0 : 0 ≤ z) (h1 : z ≤ 1048576) (hl : (l.length : Int) ≤ 9223372036854775807) :
    Calls Try.prog 12 #[.slice a l.length c, .int .i64 z] w fun e w' => e = .returned (.int .i64 (if z < (l.length : Int) + nssz l then -1 else z - l.length - nssz l)) ∧ Below w.heap.size w w' := by
  by_cases g1 : z < (l.length : Int)
  · rw [if_pos (by omega)]
    go_enter Try.func12, Try.ntmps12
    go_wp2
    go_ret
    exact ⟨rfl, Below.refl _ _⟩
  have HA := Hid.mk' ha
  have HW := Hid.mk' hw
  clear ha hw
  go_enter Try.func12, Try.ntmps12
  go_wp2
  go_loopw [1, 5] (fun x i wr => ∃ k : Nat, k ≤ l.length ∧ i = .int .i64 k ∧ x = .int .i64 (z - (l.length : Int) - (nssz (l.take k) : Int)) ∧ (nssz (l.take k) : Int) ≤ z - l.length ∧ Below w.heap.size w wr) (fun _ i _ => l.length - (intOf i).toNat)
  case atStart => exact ⟨0, Nat.zero_le _, rfl, by simp [nssz], by simp [nssz]; omega, Below.refl _ _⟩
  case round =>
    obtain ⟨k, hk, rfl, rfl, hz, hbl⟩ := hrel
    have HB := Hid.mk' hbl
    clear hbl
    by_cases hlt : k < l.length
    · have ci : (k : Int) < (l.length : Int) := by omega
      rcases HA.out.below HB.out with ha | ⟨b, o, rfl, hbs, hc⟩
      · exact absurd hlt (by rw [ha]; exact Nat.not_lt_zero _)
      obtain ⟨q1, q2, ⟨p, d, q3, _, q4⟩, ⟨p', d', q5, _⟩⟩ := hc k hlt
      obtain ⟨w1, w2, w3, w4⟩ := HW.out k hlt
      have st := nssz_take l k hlt
      have KA := Hid.mk' (szNode_gen (ndK l k) p p' d d' (z - (l.length : Int) - (nssz (l.take k) : Int)) wr q4 w1 w2 w3 w4 (by omega) (by omega))
      generalize hy : z - (l.length : Int) - (nssz (l.take k) : Int) = y at *
      clear hc q4
      by_cases g2 : y < (nsz (ndK l k) : Int)
      · rw [if_pos g2] at KA
        have gz : z < (l.length : Int) + nssz l := by have := nssz_le l (k + 1); omega
        go_wp2_with fail
        refine KA.out.mono ?_
        rintro e w1 ⟨rfl, hb⟩
        have HB := Hid.mk' (HB.out.trans (hb.mono HB.out.size))
        clear hb KA
        go_wp2
        go_ret
        exact ⟨by first | rfl | (rw [if_pos gz]; rfl), HB.out⟩
      · rw [if_neg g2] at KA
        have gy : ¬ (y - (nsz (ndK l k) : Int) < 0) := by omega
        go_wp2_with fail
        refine KA.out.mono ?_
        rintro e w1 ⟨rfl, hb⟩
        have HB := Hid.mk' (HB.out.trans (hb.mono HB.out.size))
        clear hb KA
        go_wp2
        go_roundw
        case rel => exact ⟨k + 1, by omega, by go_num, by congr 1; omega, by omega, HB.out⟩
        case measure => simp [intOf]; omega
    · have ci : ¬ (k : Int) < (l.length : Int) := by omega
      have e : k = l.length := by omega
      subst e
      rw [List.take_length] at hz
      go_wp2
      go_ret
      exact ⟨by first | rfl | (simp; done) | (rw [if_neg (by omega)]; simp), HB.out⟩

end Go.Proofs.Ytpncbcmngfpkfaa

/- Walks: nodes copied. -/
namespace Go.Proofs.Ytpncbcmngfpkfaa
open Go.RowKit
set_option linter.unusedVariables false
set_option linter.unusedSimpArgs false

/-- A row of attributes of one's own at g; the bytes of each one behind it, and all below hi. -/
def AOh (hi g : Nat) (l : List AT) (w : World) : Prop := ∃ f, w.rowIs g 87 (l.length * 2) f ∧ g < hi ∧ ∀ j, j < l.length → f (j * 2) = .string (atK l j).nm ∧ ∃ b, f (j * 2 + 1) = .slice (some ⟨b, 0, none⟩) (atK l j).vl.length (atK l j).vl.length ∧ g < b ∧ b < hi ∧ w.rowIs b 5 (atK l j).vl.length (bv (atK l j).vl)

theorem AOh.ao {hi g : Nat} {l : List AT} {w : World} (h : AOh hi g l w) : AO g l w := by
  obtain ⟨f, hf, _, hj⟩ := h
  refine ⟨f, hf, fun j hl => ?_⟩
  obtain ⟨h1, b, h2, h3, _, h4⟩ := hj j hl
  exact ⟨h1, b, h2, h3, h4⟩

theorem AO.h {hi g : Nat} {l : List AT} {w : World} (h : AO g l w) (hh : w.heap.size ≤ hi) : AOh hi g l w := by
  obtain ⟨f, hf, hj⟩ := h
  refine ⟨f, hf, Nat.lt_of_lt_of_le hf.lt hh, fun j hl => ?_⟩
  obtain ⟨h1, b, h2, h3, h4⟩ := hj j hl
  exact ⟨h1, b, h2, h3, Nat.lt_of_lt_of_le h4.lt hh, h4⟩

/-- What lies from g on and below hi stays. -/
theorem AOh.keep {hi g : Nat} {l : List AT} {w w' : World} (h : AOh hi g l w) (hk : ∀ k, g ≤ k → k < hi → k < w.heap.size → w'.heap[k]? = w.heap[k]?) : AOh hi g l w' := by
  obtain ⟨f, hf, hg, hj⟩ := h
  refine ⟨f, hf.of_block (hk g (Nat.le_refl _) hg hf.lt), hg, fun j hl => ?_⟩
  obtain ⟨h1, b, h2, h3, h4, h5⟩ := hj j hl
  exact ⟨h1, b, h2, h3, h4, h5.of_block (hk b (by omega) h4 h5.lt)⟩

theorem AOh.below {hi g : Nat} {l : List AT} {w w' : World} (h : AOh hi g l w) (hb : Below w.heap.size w w') : AOh hi g l w' := h.keep fun k _ _ hl => hb.block k hl

theorem AOh.kept {hi g lo' hi' : Nat} {l : List AT} {w w' : World} (h : AOh hi g l w) (hk : KeptIn lo' hi' w w') (hd : hi ≤ lo' ∨ hi' ≤ g) : AOh hi g l w' := h.keep fun k h1 h2 hl => hk.block k hl (by omega)

set_option maxHeartbeats 3200000 in
theorem toNode_any (t : ND) (a p : Option Addr) (c d : Nat) (w : World) (ha : AAt w a t.at_) (hp : BAt w p t.tx) (hl : (nsz t : Int) ≤ 1048576) :
    Calls Try.prog 29 #[.agg #[.int .i64 t.up, .string t.tg, .slice a t.at_.length c, .slice p t.tx.length d]] w fun e w' => ∃ g b, e = .returned (.agg #[.int .i64 t.up, .string t.tg, .slice (some ⟨g, 0, none⟩) t.at_.length t.at_.length, .slice (some ⟨b, 0, none⟩) t.tx.length t.tx.length]) ∧ w.heap.size ≤ g ∧ AOh b g t.at_ w' ∧ w'.rowIs b 5 t.tx.length (bv t.tx) ∧ Below w.heap.size w w' := by
  unfold nsz at hl
  have B0 := ((Below.refl w.heap.size w).alloc (Nat.le_refl _) (.cells #[.int .i64 t.up, .string t.tg, .slice a t.at_.length c, .slice p t.tx.length d] 54)).alloc (by simp) (.cells #[.int .i64 0, .string ⟨#[]⟩, .slice none 0 0, .slice none 0 0] 60)
  have B1 := B0.alloc (by simp; omega) (.cells #[.int .i64 t.up, .string t.tg, .slice none 0 0, .slice none 0 0] 60)
  have RP := ((row4 w 54 (.int .i64 t.up) (.string t.tg) (.slice a t.at_.length c) (.slice p t.tx.length d)).alloc (.cells #[.int .i64 0, .string ⟨#[]⟩, .slice none 0 0, .slice none 0 0] 60)).alloc (.cells #[.int .i64 t.up, .string t.tg, .slice none 0 0, .slice none 0 0] 60)
  have RR := (row4 (w.alloc (.cells #[.int .i64 t.up, .string t.tg, .slice a t.at_.length c, .slice p t.tx.length d] 54)) 60 (.int .i64 0) (.string ⟨#[]⟩) (.slice none 0 0) (.slice none 0 0)).alloc (.cells #[.int .i64 t.up, .string t.tg, .slice none 0 0, .slice none 0 0] 60)
  have RO := row4 ((w.alloc (.cells #[.int .i64 t.up, .string t.tg, .slice a t.at_.length c, .slice p t.tx.length d] 54)).alloc (.cells #[.int .i64 0, .string ⟨#[]⟩, .slice none 0 0, .slice none 0 0] 60)) 60 (.int .i64 t.up) (.string t.tg) (.slice none 0 0) (.slice none 0 0)
  have KB := Hid.mk' (toAttrS_any a c t.at_ _ (ha.below B1) (by omega))
  have HB := Hid.mk' B1
  have HT := Hid.mk' hp
  have z1 : (w.alloc (.cells #[.int .i64 t.up, .string t.tg, .slice a t.at_.length c, .slice p t.tx.length d] 54)).heap.size = w.heap.size + 1 := by simp
  have z2 : ((w.alloc (.cells #[.int .i64 t.up, .string t.tg, .slice a t.at_.length c, .slice p t.tx.length d] 54)).alloc (.cells #[.int .i64 0, .string ⟨#[]⟩, .slice none 0 0, .slice none 0 0] 60)).heap.size = w.heap.size + 1 + 1 := by simp
  have z3 : (((w.alloc (.cells #[.int .i64 t.up, .string t.tg, .slice a t.at_.length c, .slice p t.tx.length d] 54)).alloc (.cells #[.int .i64 0, .string ⟨#[]⟩, .slice none 0 0, .slice none 0 0] 60)).alloc (.cells #[.int .i64 t.up, .string t.tg, .slice none 0 0, .slice none 0 0] 60)).heap.size = w.heap.size + 1 + 1 + 1 := by simp
  rw [z1] at RR
  rw [z2] at RO
  have HR := Hid.mk' RR
  have HO := Hid.mk' RO
  have HP := Hid.mk' RP
  have Z3 := Hid.mk' z3
  clear ha hp B0 B1 RR RO RP z1 z2 z3
  generalize hW : ((w.alloc (.cells #[.int .i64 t.up, .string t.tg, .slice a t.at_.length c, .slice p t.tx.length d] 54)).alloc (.cells #[.int .i64 0, .string ⟨#[]⟩, .slice none 0 0, .slice none 0 0] 60)).alloc (.cells #[.int .i64 t.up, .string t.tg, .slice none 0 0, .slice none 0 0] 60) = W at *
  obtain ⟨p0, p1, p2_, p3, p4⟩ := cells4 HP.out
  go_enter Try.func29, Try.ntmps29
  go_wp2_with fail
  clear hW p0 p1 p2_ p3 p4
  refine KB.out.mono ?_
  rintro e w1 ⟨rfl, har⟩
  have hbl := har.bl
  have Hp := rowB HP.out hbl
  have Ho := rowB HO.out hbl
  have Hr := rowB HR.out hbl
  have K1 := (KeptIn.refl (w.heap.size + 1) (w.heap.size + 1 + 1 + 1) w1).setCell (p := ⟨w.heap.size + 1 + 1, 2, none⟩) (by simp) (by simp) (.slice (some ⟨W.heap.size, 0, none⟩) t.at_.length t.at_.length)
  have hz := Z3.out
  have hs1 := hbl.size
  have B2 := (HB.out.trans (hbl.mono HB.out.size)).trans (K1.below (B := w.heap.size) (by omega) (by omega))
  have KT := Hid.mk' (toByteS_any p d t.tx _ (HT.out.below B2) (by omega))
  have HA := Hid.mk' (AO.of har K1 (by omega))
  have KK := Hid.mk' K1
  have BB := Hid.mk' B2
  have Hp2 := Hid.mk' (rowK Hp K1 (.inl (by omega)))
  have Ho2 := Hid.mk' (Ho.set 2 (.slice (some ⟨W.heap.size, 0, none⟩) t.at_.length t.at_.length))
  have Hr2 := Hid.mk' (rowK (lo := w.heap.size + 1 + 1) (hi := w.heap.size + 1 + 1 + 1) Hr ((KeptIn.refl _ _ w1).setCell (p := ⟨w.heap.size + 1 + 1, 2, none⟩) (by simp) (by simp) (.slice (some ⟨W.heap.size, 0, none⟩) t.at_.length t.at_.length)) (.inl (by omega)))
  obtain ⟨p0, p1, p2_, p3, p4⟩ := cells4 Hp
  obtain ⟨o0, o1, o2, o3, o4⟩ := cells4 Ho
  have fo2 := Ho.frozen 2
  have s2 : (w1.setCell ⟨w.heap.size + 1 + 1, 2, none⟩ (.slice (some ⟨W.heap.size, 0, none⟩) t.at_.length t.at_.length)).heap.size = w1.heap.size := by simp [World.setCell]
  have p3' := Hp2.out.cell (i := 3) (by omega)
  have S2 := Hid.mk' s2
  have S1 := Hid.mk' hs1
  have ZZ := Hid.mk' hz
  clear Hp Ho Hr har hbl K1 B2 KB HO HR HP HB HT Z3 hz hs1 s2
  generalize hV : w1.setCell ⟨w.heap.size + 1 + 1, 2, none⟩ (.slice (some ⟨W.heap.size, 0, none⟩) t.at_.length t.at_.length) = V at *
  go_wp2_with fail
  clear hV p0 p1 p2_ p3 p4 o0 o1 o2 o3 o4 fo2 p3'
  refine KT.out.mono ?_
  rintro e w2 ⟨b, rfl, hb, hrow, hbl⟩
  have Ho := rowB Ho2.out hbl
  have Hr := rowB Hr2.out hbl
  have Hp := rowB Hp2.out hbl
  obtain ⟨p0, p1, p2_, p3, p4⟩ := cells4 Hp
  have o0 : w2.cell? ⟨w.heap.size + 1 + 1, 0, none⟩ = some (.int .i64 t.up) := Ho.cell (by omega)
  have o1 : w2.cell? ⟨w.heap.size + 1 + 1, 1, none⟩ = some (.string t.tg) := Ho.cell (by omega)
  have o2 : w2.cell? ⟨w.heap.size + 1 + 1, 2, none⟩ = some (.slice (some ⟨W.heap.size, 0, none⟩) t.at_.length t.at_.length) := Ho.cell (by omega)
  have o3 : w2.cell? ⟨w.heap.size + 1 + 1, 3, none⟩ = some (.slice none 0 0) := Ho.cell (by omega)
  have o4 : w.heap.size + 1 + 1 < w2.heap.size := Ho.lt
  obtain ⟨r0, r1, r2, r3_, r4_⟩ := cells4 Hr
  have fo3 := Ho.frozen 3
  have fr0 := Hr.frozen 0
  have fr1 := Hr.frozen 1
  have fr2 := Hr.frozen 2
  have fr3 := Hr.frozen 3
  have AH := Hid.mk' ((HA.out.h (hi := b) (by omega)).below hbl)
  have RW := Hid.mk' hrow
  have BL := Hid.mk' hbl
  have hb' := Hid.mk' hb
  clear Ho Hr Hp hrow hbl KT Ho2 Hr2 Hp2 HA KK hb
  go_wp2
  refine bodyPost_ret (v := .agg #[.int .i64 t.up, .string t.tg, .slice (some ⟨W.heap.size, 0, none⟩) t.at_.length t.at_.length, .slice (some ⟨b, 0, none⟩) t.tx.length t.tx.length]) (by simp [results, Try.results29, go_sem, *]) rfl ?_
  have e1 := ZZ.out
  have e2 := S1.out
  have e3 := S2.out
  have e4 := hb'.out
  have KK := (((((KeptIn.refl (w.heap.size + 1) (w.heap.size + 1 + 1 + 1) w2).setCell (p := ⟨w.heap.size + 1 + 1, 3, none⟩) (by simp) (by simp) (.slice (some ⟨b, 0, none⟩) t.tx.length t.tx.length)).setCell (p := ⟨w.heap.size + 1, 0, none⟩) (by simp) (by simp) (.int .i64 t.up)).setCell (p := ⟨w.heap.size + 1, 1, none⟩) (by simp) (by simp) (.string t.tg)).setCell (p := ⟨w.heap.size + 1, 2, none⟩) (by simp) (by simp) (.slice (some ⟨W.heap.size, 0, none⟩) t.at_.length t.at_.length)).setCell (p := ⟨w.heap.size + 1, 3, none⟩) (by simp) (by simp) (.slice (some ⟨b, 0, none⟩) t.tx.length t.tx.length)
  exact ⟨W.heap.size, b, rfl, by omega, AH.out.kept KK (.inr (by omega)), rowK RW.out KK (.inr (by omega)), (BB.out.trans (BL.out.mono BB.out.size)).trans (KK.below (by omega) (by omega))⟩

theorem Try.info60 : (Try.prog.info? 60).map (fun i => (i.zero, i.size, i.bytes)) = some (some (.agg #[.int .i64 0, .string ⟨#[]⟩, .slice none 0 0, .slice none 0 0]), 4, 72) := by kernel_rfl

theorem make_nodes {P : Program} (t e : TypeId) (ht : P.underlying t = some (.slice e)) (hinfo : (P.info? e).map (fun i => (i.zero, i.size, i.bytes)) = some (some (.agg #[.int .i64 0, .string ⟨#[]⟩, .slice none 0 0, .slice none 0 0]), 4, 72))
    (n : Nat) (hn : (n : Int) ≤ 1048576) (w : World) :
    (Instr.makeSlice t (.int .i64 (n : Int)) (.int .i64 (n : Int))).run P w = .ok (.slice (some ⟨w.heap.size, 0, none⟩) n n) (w.alloc (.cells (madeCells #[.int .i64 0, .string ⟨#[]⟩, .slice none 0 0, .slice none 0 0] (n * 4)) e)) := by
  obtain ⟨i, hi, hzz⟩ := Option.map_eq_some_iff.1 hinfo
  simp only [Prod.mk.injEq] at hzz
  obtain ⟨hz, hs, hb⟩ := hzz
  have hr := run_make (P := P) w t e i _ ht hi hz .i64 .i64 n n (by omega) (Int.le_refl _) (by rw [hb]; omega) (by omega)
  simp only [Int.toNat_natCast, hs] at hr
  exact hr

/-- A node in a row of nodes of one's own: its rows lie from lo on and below hi. -/
def NO (lo hi : Nat) (t : ND) (f : Nat → Value) (j : Nat) (w : World) : Prop :=
  f (j * 4) = .int .i64 t.up ∧ f (j * 4 + 1) = .string t.tg ∧ ∃ g b, f (j * 4 + 2) = .slice (some ⟨g, 0, none⟩) t.at_.length t.at_.length ∧ f (j * 4 + 3) = .slice (some ⟨b, 0, none⟩) t.tx.length t.tx.length ∧ lo ≤ g ∧ b < hi ∧ AOh b g t.at_ w ∧ w.rowIs b 5 t.tx.length (bv t.tx)

theorem AOh.lt {hi g : Nat} {l : List AT} {w : World} (h : AOh hi g l w) : g < hi := by obtain ⟨_, _, h, _⟩ := h; exact h

theorem NO.keep {lo hi : Nat} {t : ND} {f f' : Nat → Value} {j : Nat} {w w' : World} (h : NO lo hi t f j w) (hf : ∀ i, i < 4 → f' (j * 4 + i) = f (j * 4 + i)) (hk : ∀ k, lo ≤ k → k < hi → k < w.heap.size → w'.heap[k]? = w.heap[k]?) : NO lo hi t f' j w' := by
  obtain ⟨h1, h2, g, b, h3, h4, h5, h6, h7, h8⟩ := h
  have hl := h7.lt
  exact ⟨(hf 0 (by omega)).trans h1, (hf 1 (by omega)).trans h2, g, b, (hf 2 (by omega)).trans h3, (hf 3 (by omega)).trans h4, h5, h6, h7.keep (fun k a c d => hk k (by omega) (by omega) d), h8.of_block (hk b (by omega) h6 h8.lt)⟩

/-- Nodes being copied into a row of one's own: k of them are there; the rows of each one behind those of the one ahead. -/
structure NR (w : World) (l : List ND) (k : Nat) (wr : World) : Prop where
  bl : Below w.heap.size w wr
  row : ∃ (f : Nat → Value) (s : Nat → Nat), wr.rowIs w.heap.size 60 (l.length * 4) f ∧ w.heap.size < s 0 ∧ s k ≤ wr.heap.size ∧ (∀ j, j < k → s j ≤ s (j + 1)) ∧ ∀ j, j < k → NO (s j) (s (j + 1)) (ndK l j) f j wr

theorem NR.start (w : World) (l : List ND) : NR w l 0 (w.alloc (.cells (madeCells #[.int .i64 0, .string ⟨#[]⟩, .slice none 0 0, .slice none 0 0] (l.length * 4)) 60)) := by
  refine ⟨(Below.refl _ _).alloc (Nat.le_refl _) _, fun i => r4 (.int .i64 0) (.string ⟨#[]⟩) (.slice none 0 0) (.slice none 0 0) (i % 4), fun _ => w.heap.size + 1, ?_, Nat.lt_succ_self _, by simp, fun j hj => absurd hj (Nat.not_lt_zero _), fun j hj => absurd hj (Nat.not_lt_zero _)⟩
  refine ⟨_, Deep.blk_alloc_new _ _, size_madeCells _ _, fun i hi => ?_⟩
  have h : i % 4 = 0 ∨ i % 4 = 1 ∨ i % 4 = 2 ∨ i % 4 = 3 := by omega
  rcases h with h | h | h | h <;> simp [madeCells, hi, h, r4]

theorem NR.below {w wr w1 : World} {l : List ND} {k : Nat} (h : NR w l k wr) (hb : Below wr.heap.size wr w1) : NR w l k w1 := by
  obtain ⟨f, s, hf, h0, h1, h2, hj⟩ := h.row
  exact ⟨h.bl.trans (hb.mono h.bl.size), f, s, rowB hf hb, h0, Nat.le_trans h1 hb.size, h2, fun j hk => (hj j hk).keep (fun _ _ => rfl) (fun i _ _ hl => hb.block i hl)⟩

theorem mono_s {s : Nat → Nat} {k : Nat} (h : ∀ j, j < k → s j ≤ s (j + 1)) : ∀ j, j ≤ k → s 0 ≤ s j
  | 0, _ => Nat.le_refl _
  | j + 1, hj => Nat.le_trans (mono_s h j (by omega)) (h j (by omega))

theorem NR.step {w wr w1 : World} {l : List ND} {k g b : Nat} (h : NR w l k wr) (hb1 : Below wr.heap.size wr w1) (hg : wr.heap.size ≤ g) (hao : AOh b g (ndK l k).at_ w1) (hrow : w1.rowIs b 5 (ndK l k).tx.length (bv (ndK l k).tx)) :
    NR w l (k + 1) ((((w1.setCell ⟨w.heap.size, k * 4, none⟩ (.int .i64 (ndK l k).up)).setCell ⟨w.heap.size, k * 4 + 1, none⟩ (.string (ndK l k).tg)).setCell ⟨w.heap.size, k * 4 + 2, none⟩ (.slice (some ⟨g, 0, none⟩) (ndK l k).at_.length (ndK l k).at_.length)).setCell ⟨w.heap.size, k * 4 + 3, none⟩ (.slice (some ⟨b, 0, none⟩) (ndK l k).tx.length (ndK l k).tx.length)) := by
  have h' := h.below hb1
  obtain ⟨f0, s0, hf0, _, h10, _, _⟩ := h.row
  obtain ⟨f, s, hf, h0, h1, h2, hj⟩ := h.row
  have hf := rowB hf hb1
  have K := kept4 w1 w.heap.size (k * 4) (k * 4 + 1) (k * 4 + 2) (k * 4 + 3) (.int .i64 (ndK l k).up) (.string (ndK l k).tg) (.slice (some ⟨g, 0, none⟩) (ndK l k).at_.length (ndK l k).at_.length) (.slice (some ⟨b, 0, none⟩) (ndK l k).tx.length (ndK l k).tx.length)
  have hm := mono_s h2
  have hbs := hb1.size
  have hbl := hrow.lt
  have hgb := hao.lt
  have hm2 := hm k (Nat.le_refl _)
  refine ⟨h'.bl.trans (K.below (Nat.le_refl _) h'.bl.size), _, fun j => if j = k + 1 then w1.heap.size else s j, (((hf.set (k * 4) _).set (k * 4 + 1) _).set (k * 4 + 2) _).set (k * 4 + 3) _, by simpa using h0, ?_, fun j hk => ?_, fun j hk => ?_⟩
  · simp [World.setCell]
  · by_cases e : j = k
    · subst e; simp; omega
    · simp only [show ¬ j = k + 1 by omega, show ¬ j + 1 = k + 1 by omega, if_false]; exact h2 j (by omega)
  · by_cases e : j = k
    · subst e
      simp only [show ¬ j = j + 1 by omega, if_false, if_true]
      refine ⟨?_, ?_, g, b, ?_, ?_, by omega, hbl, hao.kept K (.inr (by omega)), rowK hrow K (.inr (by omega))⟩
      · dsimp only; rw [if_neg (by omega), if_neg (by omega), if_neg (by omega), if_pos rfl]
      · dsimp only; rw [if_neg (by omega), if_neg (by omega), if_pos rfl]
      · dsimp only; rw [if_neg (by omega), if_pos rfl]
      · dsimp only; rw [if_pos rfl]
    · simp only [show ¬ j = k + 1 by omega, show ¬ j + 1 = k + 1 by omega, if_false]
      have hmj := hm j (by omega)
      refine (hj j (by omega)).keep (fun i hi => ?_) (fun i h3 h4 h5 => ?_)
      · rw [if_neg (by omega), if_neg (by omega), if_neg (by omega), if_neg (by omega)]
      · exact (K.block i (by omega) (by omega)).trans (hb1.block i h5)

theorem NR.at {w wr : World} {l : List ND} (h : NR w l l.length wr) : NsAt wr (some ⟨w.heap.size, 0, none⟩) l := by
  obtain ⟨f, s, hf, h0, h1, h2, hj⟩ := h.row
  refine .inr ⟨_, _, rfl, hf.lt, fun k hk => ?_⟩
  obtain ⟨e1, e2, g, b, e3, e4, h5, h6, h7, h8⟩ := hj k hk
  have c := fun i (hi : i < 4) => hf.cell (show k * 4 + i < l.length * 4 by omega)
  refine ⟨by rw [Nat.zero_add]; exact (c 0 (by omega)).trans (by rw [Nat.add_zero, e1]), by rw [Nat.zero_add, c 1 (by omega), e2], ⟨_, _, by rw [Nat.zero_add, c 2 (by omega), e3], Nat.le_refl _, h7.ao.at⟩, ⟨_, _, by rw [Nat.zero_add, c 3 (by omega), e4], .of_row h8⟩⟩

set_option maxHeartbeats 1600000 in
theorem toNodeS_any (a : Option Addr) (c : Nat) (l : List ND) (w : World) (ha : NsAt w a l) (hl : (l.length : Int) + nssz l ≤ 1048576) :
    Calls Try.prog 15 #[.slice a l.length c] w fun e w' => e = .returned (.slice (some ⟨w.heap.size, 0, none⟩) l.length l.length) ∧ NR w l l.length w' := by
  have hmk := make_nodes (P := Try.prog) 28 60 Try.underlying28 Try.info60 l.length (by omega)
  have HA := Hid.mk' ha
  clear ha
  go_enter Try.func15, Try.ntmps15
  go_wp2
  go_loopw [4] (fun i wr => ∃ k : Nat, k ≤ l.length ∧ i = .int .i64 k ∧ NR w l k wr) (fun i _ => l.length - (intOf i).toNat)
  case atStart => exact ⟨0, Nat.zero_le _, rfl, NR.start w l⟩
  case round =>
    obtain ⟨k, hk, rfl, hr⟩ := hrel
    have HR := Hid.mk' hr
    clear hr hmk
    by_cases hlt : k < l.length
    · have ci : (k : Int) < (l.length : Int) := by omega
      rcases HA.out with ha | ⟨b, o, rfl, hbs, hc⟩
      · exact absurd hlt (by rw [ha]; exact Nat.not_lt_zero _)
      obtain ⟨q1, q2, ⟨p, d, q3, _, q4⟩, ⟨p', d', q5, q6⟩⟩ := hc k hlt
      have h1 := (HR.out.bl.cell hbs).trans q1
      have h2 := (HR.out.bl.cell hbs).trans q2
      have h3 := (HR.out.bl.cell hbs).trans q3
      have h4 := (HR.out.bl.cell hbs).trans q5
      have st := nssz_at hlt
      have KA := Hid.mk' (toNode_any (ndK l k) p p' d d' wr (q4.below HR.out.bl) (q6.below HR.out.bl) (by omega))
      clear q1 q2 q3 q4 q5 q6 hc st
      go_wp2_with fail
      refine KA.out.mono ?_
      rintro e w1 ⟨g, b1, rfl, hg, hao, hrow, hbl⟩
      have hr1 := HR.out.below hbl
      obtain ⟨f, _, hf, _⟩ := hr1.row
      have f0 := hf.frozen (k * 4)
      have f1 := hf.frozen (k * 4 + 1)
      have f2 := hf.frozen (k * 4 + 2)
      have f3 := hf.frozen (k * 4 + 3)
      obtain ⟨v0, g0⟩ : ∃ v, w1.cell? ⟨w.heap.size, k * 4, none⟩ = some v := ⟨_, hf.cell (by omega)⟩
      obtain ⟨v1, g1⟩ : ∃ v, w1.cell? ⟨w.heap.size, k * 4 + 1, none⟩ = some v := ⟨_, hf.cell (by omega)⟩
      obtain ⟨v2, g2⟩ : ∃ v, w1.cell? ⟨w.heap.size, k * 4 + 2, none⟩ = some v := ⟨_, hf.cell (by omega)⟩
      obtain ⟨v3, g3⟩ : ∃ v, w1.cell? ⟨w.heap.size, k * 4 + 3, none⟩ = some v := ⟨_, hf.cell (by omega)⟩
      have R1 := Hid.mk' (HR.out.step hbl hg hao hrow)
      clear hr1 hf hao hbl hrow KA h1 h2 h3 h4 hg
      go_wp2
      go_roundw
      case rel => exact ⟨k + 1, by omega, by go_num, R1.out⟩
      case measure => simp [intOf]; omega
    · have ci : ¬ (k : Int) < (l.length : Int) := by omega
      have e : k = l.length := by omega
      subst e
      go_wp2
      go_ret
      exact ⟨rfl, HR.out⟩

end Go.Proofs.Ytpncbcmngfpkfaa

/- Walks: nodes that are the same are told so. -/
namespace Go.Proofs.Ytpncbcmngfpkfaa
open Go.RowKit
set_option linter.unusedVariables false
set_option linter.unusedSimpArgs false

set_option maxHeartbeats 1600000 in
theorem eqNode_any (t : ND) (a b p q : Option Addr) (c d c' d' : Nat) (w : World) (ha : AAt w a t.at_) (hb : AAt w b t.at_) (hp : BAt w p t.tx) (hq : BAt w q t.tx) (hl : (nsz t : Int) ≤ 1048576) :
    Calls Try.prog 37 #[.agg #[.int .i64 t.up, .string t.tg, .slice a t.at_.length c, .slice p t.tx.length c'], .agg #[.int .i64 t.up, .string t.tg, .slice b t.at_.length d, .slice q t.tx.length d']] w fun e w' => e = .returned (.bool true) ∧ Below w.heap.size w w' := by
  unfold nsz at hl
  have B0 := ((Below.refl w.heap.size w).alloc (Nat.le_refl _) (.cells #[.int .i64 t.up, .string t.tg, .slice a t.at_.length c, .slice p t.tx.length c'] 60)).alloc (by simp) (.cells #[.int .i64 t.up, .string t.tg, .slice b t.at_.length d, .slice q t.tx.length d'] 60)
  have R1 := (row4 w 60 (.int .i64 t.up) (.string t.tg) (.slice a t.at_.length c) (.slice p t.tx.length c')).alloc (.cells #[.int .i64 t.up, .string t.tg, .slice b t.at_.length d, .slice q t.tx.length d'] 60)
  have R2 := row4 (w.alloc (.cells #[.int .i64 t.up, .string t.tg, .slice a t.at_.length c, .slice p t.tx.length c'] 60)) 60 (.int .i64 t.up) (.string t.tg) (.slice b t.at_.length d) (.slice q t.tx.length d')
  have z1 : (w.alloc (.cells #[.int .i64 t.up, .string t.tg, .slice a t.at_.length c, .slice p t.tx.length c'] 60)).heap.size = w.heap.size + 1 := by simp
  rw [z1] at R2
  have H1 := Hid.mk' R1
  have H2 := Hid.mk' R2
  have KB := Hid.mk' (eqAttrS_any a b c d t.at_ _ (ha.below B0) (hb.below B0) (by omega))
  have HX := Hid.mk' (hp.below B0)
  have HY := Hid.mk' (hq.below B0)
  have HB := Hid.mk' B0
  clear ha hb hp hq B0 R1 R2 z1
  generalize hW : (w.alloc (.cells #[.int .i64 t.up, .string t.tg, .slice a t.at_.length c, .slice p t.tx.length c'] 60)).alloc (.cells #[.int .i64 t.up, .string t.tg, .slice b t.at_.length d, .slice q t.tx.length d'] 60) = W at *
  obtain ⟨p0, p1, p2_, p3, p4⟩ := cells4 H1.out
  obtain ⟨q0, q1, q2, q3, q4⟩ := cells4 H2.out
  go_enter Try.func37, Try.ntmps37
  go_wp2_with fail
  clear hW p0 p1 p2_ p3 p4 q0 q1 q2 q3 q4
  refine KB.out.mono ?_
  rintro e w1 ⟨rfl, hb⟩
  obtain ⟨p0, p1, p2_, p3, p4⟩ := cells4 (rowB H1.out hb)
  obtain ⟨q0, q1, q2, q3, q4⟩ := cells4 (rowB H2.out hb)
  have KT := Hid.mk' (eqByteS_any p q c' d' t.tx w1 (HX.out.below hb) (HY.out.below hb) (by omega))
  have HB := Hid.mk' (HB.out.trans (hb.mono HB.out.size))
  clear hb KB
  go_wp2_with fail
  refine KT.out.mono ?_
  rintro e w2 ⟨rfl, hb⟩
  have HB := Hid.mk' (HB.out.trans (hb.mono HB.out.size))
  clear hb KT
  go_wp2
  go_ret
  exact ⟨rfl, HB.out⟩

set_option maxHeartbeats 1600000 in
theorem eqNodeS_any (a b : Option Addr) (c d : Nat) (l : List ND) (w : World) (ha : NsAt w a l) (hb : NsAt w b l) (hl : (l.length : Int) + nssz l ≤ 1048576) :
    Calls Try.prog 19 #[.slice a l.length c, .slice b l.length d] w fun e w' => e = .returned (.bool true) ∧ Below w.heap.size w w' := by
  have HA := Hid.mk' ha
  have HB := Hid.mk' hb
  clear ha hb
  go_enter Try.func19, Try.ntmps19
  go_wp2
  go_loopw [5] (fun i wr => ∃ k : Nat, k ≤ l.length ∧ i = .int .i64 k ∧ Below w.heap.size w wr) (fun i _ => l.length - (intOf i).toNat)
  case atStart => exact ⟨0, Nat.zero_le _, rfl, Below.refl _ _⟩
  case round =>
    obtain ⟨k, hk, rfl, hbl⟩ := hrel
    have R2 := Hid.mk' hbl
    by_cases hlt : k < l.length
    · have ci : (k : Int) < (l.length : Int) := by omega
      rcases HA.out.below hbl with ha | ⟨b1, o1, rfl, s1, hc1⟩
      · exact absurd hlt (by rw [ha]; exact Nat.not_lt_zero _)
      rcases HB.out.below hbl with hb | ⟨b2, o2, rfl, s2, hc2⟩
      · exact absurd hlt (by rw [hb]; exact Nat.not_lt_zero _)
      obtain ⟨x1, x2, ⟨p1, d1, x3, _, x4⟩, ⟨p3, d3, x5, x6⟩⟩ := hc1 k hlt
      obtain ⟨y1, y2, ⟨p2_, d2, y3, _, y4⟩, ⟨p4, d4, y5, y6⟩⟩ := hc2 k hlt
      have st := nssz_at hlt
      have KE := Hid.mk' (eqNode_any (ndK l k) p1 p2_ p3 p4 d1 d2 d3 d4 wr.drew (x4.below (Below.refl _ _).drew) (y4.below (Below.refl _ _).drew) (x6.below (Below.refl _ _).drew) (y6.below (Below.refl _ _).drew) (by omega))
      clear hbl hc1 hc2 x4 y4 x6 y6 st
      go_wp2
      go_region_held3 (fun w' => w'.cell? ⟨b1, o1 + k * 4, none⟩ = some (.int .i64 (ndK l k).up) ∧ w'.cell? ⟨b1, o1 + k * 4 + 1, none⟩ = some (.string (ndK l k).tg) ∧ w'.cell? ⟨b1, o1 + k * 4 + 2, none⟩ = some (.slice p1 (ndK l k).at_.length d1) ∧ w'.cell? ⟨b1, o1 + k * 4 + 3, none⟩ = some (.slice p3 (ndK l k).tx.length d3) ∧ w'.cell? ⟨b2, o2 + k * 4, none⟩ = some (.int .i64 (ndK l k).up) ∧ w'.cell? ⟨b2, o2 + k * 4 + 1, none⟩ = some (.string (ndK l k).tg) ∧ w'.cell? ⟨b2, o2 + k * 4 + 2, none⟩ = some (.slice p2_ (ndK l k).at_.length d2) ∧ w'.cell? ⟨b2, o2 + k * 4 + 3, none⟩ = some (.slice p4 (ndK l k).tx.length d4)) (simp [*])
        ((go_at_call 37; refine KE.out.mono ?_; rintro e w1 ⟨rfl, hb1⟩; replace hb1 := undrew hb1; obtain ⟨hx1, hx2⟩ := bcell hb1))
      go_wp2
      go_roundw
      case rel => exact ⟨k + 1, by omega, by go_num, R2.out.trans (hb1.mono R2.out.size)⟩
      case measure => simp [intOf]; omega
    · have ci : ¬ (k : Int) < (l.length : Int) := by omega
      go_wp2
      go_ret
      exact ⟨rfl, R2.out⟩

end Go.Proofs.Ytpncbcmngfpkfaa

/- Walks: a table copied, two tables compared. -/
namespace Go.Proofs.Ytpncbcmngfpkfaa
open Go.RowKit
set_option linter.unusedVariables false

/-- A row behind four stores into other blocks. -/
theorem four_other {w : World} {b n c d o1 o2 o3 o4 : Nat} {t : TypeId} {f : Nat → Value} {v1 v2 v3 v4 : Value} (h : w.rowIs b t n f) (h1 : b ≠ c) (h2 : b ≠ d) :
    ((((w.setCell ⟨c, o1, none⟩ v1).setCell ⟨d, o2, none⟩ v2).setCell ⟨d, o3, none⟩ v3).setCell ⟨d, o4, none⟩ v4).rowIs b t n f :=
  (((h.setOther (a := ⟨c, o1, none⟩) h1 _).setOther (a := ⟨d, o2, none⟩) h2 _).setOther (a := ⟨d, o3, none⟩) h2 _).setOther (a := ⟨d, o4, none⟩) h2 _

end Go.Proofs.Ytpncbcmngfpkfaa

/- Walks of the specification's side: the fault of a table, the sum of its sizes. -/
namespace Go.Proofs.Ytpncbcmngfpkfaa
open Go.RowKit
set_option linter.unusedVariables false

end Go.Proofs.Ytpncbcmngfpkfaa

/- Walks of the program's side: the fault of a table. -/
namespace Go.Proofs.Ytpncbcmngfpkfaa
open Go.RowKit
set_option linter.unusedVariables false

theorem below_three {B : Nat} {w w' : World} (h : Below B w w') {o1 o2 o3 : Nat} {v1 v2 v3 : Value} : Below B w (((w'.setCell ⟨B, o1, none⟩ v1).setCell ⟨B, o2, none⟩ v2).setCell ⟨B, o3, none⟩ v3) :=
  ((h.setCell (p := ⟨B, o1, none⟩) (Nat.le_refl _) _).setCell (p := ⟨B, o2, none⟩) (Nat.le_refl _) _).setCell (p := ⟨B, o3, none⟩) (Nat.le_refl _) _

theorem join2 {B : Nat} {w a b c : World} (h : Below B w a) (h1 : Below a.heap.size a b) (h2 : Below b.heap.size b c) (hB : B ≤ a.heap.size := by first | omega | (simp; omega)) : Below B w c :=
  (h.trans (h1.mono hB)).trans (h2.mono (Nat.le_trans hB h1.size))

theorem row2 {a b c : World} {g n : Nat} {t : TypeId} {f : Nat → Value} (h : a.rowIs g t n f) (h1 : Below a.heap.size a b) (h2 : Below b.heap.size b c) : c.rowIs g t n f := by
  have h' := h.of_block (h1.block _ h.lt)
  exact h'.of_block (h2.block _ h'.lt)

/-- Each piece begins at a place that is an int64. -/
def WFT (t : TB) : Prop := ∀ k, k < t.pcs.length → (pc t.pcs k).fr ≤ 9223372036854775807

end Go.Proofs.Ytpncbcmngfpkfaa

/- The walk of the law on TableFault: it answers true at every table, and turns nothing that was there. -/
namespace Go.Proofs.Ytpncbcmngfpkfaa
open Go.RowKit
set_option linter.unusedVariables false

/-- What a law holds on to while it calls: nothing old has turned; its argument lies in its box; the argument reads as the table. -/
def Hold (w : World) (ty : TypeId) (x y z : Value) (t : TB) (wi : World) : Prop := Below w.heap.size w wi ∧ wi.rowIs w.heap.size ty 3 (r3 x y z) ∧ TAt wi (.agg #[x, y, z]) t

theorem Hold.start {w : World} {ty : TypeId} {x y z : Value} {t : TB} (ht : TAt w (.agg #[x, y, z]) t) : Hold w ty x y z t (w.alloc (.cells #[x, y, z] ty)) :=
  have B0 := (Below.refl w.heap.size w).alloc (Nat.le_refl _) (.cells #[x, y, z] ty)
  ⟨B0, row3 w ty x y z, ht.below B0⟩

theorem Hold.below {w wi wj : World} {ty : TypeId} {x y z : Value} {t : TB} (h : Hold w ty x y z t wi) (hb : Below wi.heap.size wi wj) : Hold w ty x y z t wj :=
  ⟨h.1.trans (hb.mono h.1.size), h.2.1.of_block (hb.block _ h.2.1.lt), h.2.2.below hb⟩

theorem Hold.cells {w wi : World} {ty : TypeId} {x y z : Value} {t : TB} (h : Hold w ty x y z t wi) : wi.cell? ⟨w.heap.size, 0, none⟩ = some x ∧ wi.cell? ⟨w.heap.size, 1, none⟩ = some y ∧ wi.cell? ⟨w.heap.size, 2, none⟩ = some z ∧ w.heap.size < wi.heap.size :=
  ⟨h.2.1.cell (by omega), h.2.1.cell (by omega), h.2.1.cell (by omega), h.2.1.lt⟩

theorem cells3 {w : World} {g : Nat} {ty : TypeId} {x y z : Value} (h : w.rowIs g ty 3 (r3 x y z)) : w.cell? ⟨g, 0, none⟩ = some x ∧ w.cell? ⟨g, 1, none⟩ = some y ∧ w.cell? ⟨g, 2, none⟩ = some z ∧ g < w.heap.size :=
  ⟨h.cell (by omega), h.cell (by omega), h.cell (by omega), h.lt⟩

end Go.Proofs.Ytpncbcmngfpkfaa

/- Walks: the size of a table, both sides, and the law on it. -/
namespace Go.Proofs.Ytpncbcmngfpkfaa
open Go.RowKit
set_option linter.unusedVariables false

theorem below_two {B : Nat} {w w' : World} (h : Below B w w') {c o1 o2 : Nat} {v1 v2 : Value} (hc : B ≤ c) : Below B w ((w'.setCell ⟨c, o1, none⟩ v1).setCell ⟨c, o2, none⟩ v2) :=
  (h.setCell (p := ⟨c, o1, none⟩) hc _).setCell (p := ⟨c, o2, none⟩) hc _

end Go.Proofs.Ytpncbcmngfpkfaa

/- Walks: memory of one's own is marked, and the marks are held. -/
namespace Go.Proofs.Ytpncbcmngfpkfaa
open Go.RowKit
set_option linter.unusedVariables false

theorem ret_num {a b : Int} (h : a = b) : Ending.returned (.int .i64 a) = .returned (.int .i64 b) := by rw [h]

end Go.Proofs.Ytpncbcmngfpkfaa

/- Laws of append and copy in the form in which the walks here want them. -/
namespace Go.Proofs.Ytpncbcmngfpkfaa
open Go.RowKit
set_option linter.unusedVariables false

/-- append(v, x...): v a row of one's own, x whatever slice. -/
theorem wpList_append_any {P : Program} (w : World) {ops : Array Oper} {rest : List Oper} {o : Oper} {a : Act} {Q : Exit → Act → World → Prop} (hgd : o.guard = none) (s x : Operand) (t : TypeId)
    (ho : o.op = .call { callee := .builtin .append, args := #[s, x], argTypes := #[t, t] })
    (base : Nat) (e : TypeId) (z : Value) (size bytes : Nat) (ht : P.underlying t = some (.slice e)) (hinfo : (P.info? e).map (fun i => (i.zero, i.size, i.bytes)) = some (some z, size, bytes))
    (hzs : z.cells.size = size) (hsz : 0 < size)
    (v : Value) (n : Nat) (xs : List Value) (hs : a.eval s = v) (hown : w.ownsRow base e size v n xs)
    (ax : Option Addr) (m c : Nat) (news : List Value) (hx : a.eval x = .slice ax m c) (hl : news.length = m * size)
    (hsrc : m = 0 ∨ ∃ ad, ax = some ad ∧ ∀ j u, news[j]? = some u → w.cell? (ad.add j) = some u) (h1 : ∀ u ∈ news, u.oneCell' = true)
    (h63 : n + m ≤ maxLen) (hbytes : (n + m) * bytes ≤ 140737488355328) (hbase : base ≤ w.heap.size)
    (h : ∀ v' w', w'.ownsRow base e size v' (n + m) (xs ++ news) → w.grownBy w' v.ownBlock → wpList P ops Q rest (a.put o.dst v') w') : wpList P ops Q (o :: rest) a w := by
  obtain ⟨i, hi, hz0, hz1, hz2⟩ := info_parts hinfo
  cases ax with
  | some ad =>
    refine wpList_append_own w hgd s x t ho base e i z size bytes ht hi hz0 hz1 hz2 hzs hsz v n xs hs hown ad m c news hx hl ?_ h1 h63 hbytes hbase fun v' w' h2 h3 _ => h v' w' h2 h3
    rcases hsrc with h0 | ⟨ad', e', hc⟩
    · subst h0
      have : news = [] := List.eq_nil_of_length_eq_zero (by simpa using hl)
      subst this
      intro j u hj
      simp at hj
    · cases e'
      exact hc
  | none =>
    have hm : m = 0 := by
      rcases hsrc with h0 | ⟨ad', e', _⟩
      · exact h0
      · cases e'
    subst hm
    have hn : news = [] := List.eq_nil_of_length_eq_zero (by simpa using hl)
    subst hn
    have hr : (Builtin.append_ #[t, t] o.type #[v, .slice none 0 c]).run P w = .ok v w := by
      rcases hown.2 with ⟨rfl, rfl⟩ | ⟨g, cap, cur, rfl, _, _, hnc, _⟩
      · simp [Builtin.append_, run_underlying ht, sizeOf, typeInfo, hi, Builtin.lenOf, Builtin.firstCells]
      · simp [Builtin.append_, run_underlying ht, sizeOf, typeInfo, hi, Builtin.lenOf, Builtin.firstCells, hnc, storeCells]
    refine wpList_plain hgd fun K hK => ?_
    unfold Oper.wp execOp
    simp only [ho, resolve, invoke, builtin, Sem.run_bind, Sem.run_pure, Result.andThen_ok, List.map_toArray, List.map_cons, List.map_nil, hs, hx, hr]
    exact hK _ _ (h v w (by simpa using hown) ⟨rfl, rfl, rfl, Nat.le_refl _, fun _ _ _ => rfl⟩)

/-- The cells of bytes. -/
def bcs (l : List Int) : List Value := l.map (Value.int .u8)
/-- The cells of pieces. -/
def pcs (l : List PC) : List Value := l.flatMap fun p => [.bool p.ad, .int .i64 p.fr, .int .i64 p.sz]

theorem bcs_len (l : List Int) : (bcs l).length = l.length * 1 := by simp [bcs]
theorem pcs_len (l : List PC) : (pcs l).length = l.length * 3 := by
  induction l with
  | nil => rfl
  | cons p r ih => unfold pcs at ih ⊢; simp [ih]; omega
theorem bcs_one (l : List Int) : ∀ u ∈ bcs l, u.oneCell' = true := by
  intro u hu; simp [bcs] at hu; obtain ⟨x, _, rfl⟩ := hu; rfl
theorem pcs_one (l : List PC) : ∀ u ∈ pcs l, u.oneCell' = true := by
  intro u hu; simp [pcs] at hu
  obtain ⟨p, _, rfl | rfl | rfl⟩ := hu <;> rfl
theorem bcs_get (l : List Int) (j : Nat) (h : j < l.length) : (bcs l)[j]? = some (bv l j) := by simp [bcs, bv, h]
theorem pcs_get (l : List PC) : ∀ j, j < l.length * 3 → (pcs l)[j]? = some (pv l j) := by
  induction l with
  | nil => intro j h; simp at h
  | cons p r ih =>
    intro j h
    have e : pcs (p :: r) = [Value.bool p.ad, .int .i64 p.fr, .int .i64 p.sz] ++ pcs r := rfl
    rw [e]
    by_cases h3 : j < 3
    · have : j = 0 ∨ j = 1 ∨ j = 2 := by omega
      rcases this with rfl | rfl | rfl <;> simp [pv, pc]
    · rw [List.getElem?_append_right (by simp; omega)]
      simp only [List.length_cons, List.length_nil]
      rw [ih (j - 3) (by simp at h; omega)]
      unfold pv pc
      have m : (j - 3) % 3 = j % 3 := by omega
      have d : j / 3 = (j - 3) / 3 + 1 := by omega
      rw [m, d]
      rfl
theorem bcs_append (a b : List Int) : bcs (a ++ b) = bcs a ++ bcs b := by simp [bcs]
theorem pcs_append (a b : List PC) : pcs (a ++ b) = pcs a ++ pcs b := by simp [pcs]

theorem BAt.src {w : World} {a : Option Addr} {l : List Int} (h : BAt w a l) : l.length = 0 ∨ ∃ ad, a = some ad ∧ ∀ j u, (bcs l)[j]? = some u → w.cell? (ad.add j) = some u := by
  rcases h with h | ⟨b, o, rfl, hl, hc⟩
  · left; rw [h]; rfl
  · right
    refine ⟨_, rfl, fun j u hj => ?_⟩
    have hlt : j < l.length := by
      have := (List.getElem?_eq_some_iff.1 hj).1
      rw [bcs_len] at this; omega
    rw [bcs_get l j hlt] at hj
    rw [Addr.add_mid, hc j hlt]
    exact hj

theorem PAt.src {w : World} {a : Option Addr} {l : List PC} (h : PAt w a l) : l.length = 0 ∨ ∃ ad, a = some ad ∧ ∀ j u, (pcs l)[j]? = some u → w.cell? (ad.add j) = some u := by
  rcases h with h | ⟨b, o, rfl, hl, hc⟩
  · left; rw [h]; rfl
  · right
    refine ⟨_, rfl, fun j u hj => ?_⟩
    have hlt : j < l.length * 3 := by
      have := (List.getElem?_eq_some_iff.1 hj).1
      rw [pcs_len] at this; exact this
    rw [pcs_get l j hlt] at hj
    obtain ⟨c0, c1, c2⟩ := hc (j / 3) (by omega)
    rw [Addr.add_mid, ← hj]
    have h3 : j % 3 = 0 ∨ j % 3 = 1 ∨ j % 3 = 2 := by omega
    rcases h3 with e | e | e
    · rw [show o + j = o + j / 3 * 3 from by omega, c0]; unfold pv; rw [if_pos e]
    · rw [show o + j = o + j / 3 * 3 + 1 from by omega, c1]; unfold pv; rw [if_neg (by omega), if_pos e]
    · rw [show o + j = o + j / 3 * 3 + 2 from by omega, c2]; unfold pv; rw [if_neg (by omega), if_neg (by omega)]

theorem OB.of_own {w : World} {base : Nat} {v : Value} {l : List Int} (h : w.ownsRow base 5 1 v l.length (bcs l)) : OB w v l ∧ ∀ k, v.ownBlock = some k → base ≤ k := by
  obtain ⟨_, h | ⟨g, cap, cur, rfl, hb, hg, hn, hm, hs, ht⟩⟩ := h
  · obtain ⟨rfl, h0⟩ := h
    exact ⟨.inl ⟨rfl, List.eq_nil_of_length_eq_zero h0⟩, fun k hk => by simp [Value.ownBlock] at hk⟩
  · refine ⟨.inr ⟨g, cap, cap, fun i => cur.toList.getD i undef, rfl, hn, ⟨cur, hg, by omega, fun i hi => ?_⟩, hn, fun i hi => ?_⟩, fun k hk => by simp [Value.ownBlock] at hk; omega⟩
    · have : i < cur.size := by omega
      simp [this]
    · have e := bcs_get l i hi
      rw [← ht, List.getElem?_take, if_pos (by omega)] at e
      simp only [List.getD_eq_getElem?_getD, e, Option.getD_some]

/-- copy into a row of bytes of one's own, from place o on. -/
theorem copy_row {P : Program} (dT sT ty : TypeId) (hu : P.underlying dT = some (.slice 5)) (hs : (P.info? 5).map (·.size) = some 1) {w : World} {g cn : Nat} {f : Nat → Value} (o dn dc : Nat) (hr : w.rowIs g 5 cn f) (a : Option Addr) (c : Nat) (l : List Int)
    (ha : BAt w a l) (h1 : l.length ≤ dn) (h2 : o + l.length ≤ cn) :
    ∃ w', (Builtin.copy_ #[dT, sT] ty #[.slice (some ⟨g, o, none⟩) dn dc, .slice a l.length c]).run P w = .ok (goInt l.length) w' ∧ w'.rowIs g 5 cn (fun j => if o ≤ j ∧ j < o + l.length then bv l (j - o) else f j) ∧ KeptIn g (g + 1) w w' := by
  rcases ha.src with h0 | ⟨ad, rfl, hc⟩
  · rw [h0]
    exact ⟨w, run_copy_none w dT sT ty 5 _ a dn dc 0 c hu hs (by simp), hr.congr (fun j _ => by rw [if_neg (by omega)]), KeptIn.refl _ _ _⟩
  · obtain ⟨cur, hg, hn, hf⟩ := hr
    have hmin : (bcs l).length = Nat.min l.length dn := by rw [bcs_len, Nat.mul_one]; exact (Nat.min_eq_left h1).symm
    have hrun := run_copy_row (P := P) w dT sT ty 5 g o dn dc ad l.length c cur 5 (bcs l) hu hs hg hmin hc (by rw [bcs_len]; omega) (bcs_one l)
    rw [bcs_len, Nat.mul_one] at hrun
    refine ⟨_, hrun, ⟨_, setRow_heap w g cur _ 5 _ hg, ?_, fun i hi => ?_⟩, ⟨rfl, rfl, rfl, by simp [World.setRow], fun k hk hne => setRow_other w g k _ (by omega)⟩⟩
    · simp only [List.size_toArray, List.length_append, List.length_take, List.length_drop, Array.length_toList, bcs_len]
      omega
    · simp only [List.getElem?_toArray]
      have hlt : (cur.toList.take o).length = o := by rw [List.length_take, Array.length_toList]; omega
      by_cases c1 : i < o
      · rw [if_neg (by omega), List.append_assoc, List.getElem?_append_left (by omega), List.getElem?_take, if_pos c1, Array.getElem?_toList]
        exact hf i hi
      · by_cases c2 : i < o + l.length
        · rw [if_pos (by omega), List.append_assoc, List.getElem?_append_right (by omega), hlt, List.getElem?_append_left (by rw [bcs_len]; omega)]
          exact bcs_get l _ (by omega)
        · rw [if_neg (by omega), List.append_assoc, List.getElem?_append_right (by omega), hlt, List.getElem?_append_right (by rw [bcs_len]; omega), bcs_len, List.getElem?_drop, Array.getElem?_toList]
          rw [show o + l.length + (i - o - l.length * 1) = i from by omega]
          exact hf i hi

theorem bv_append_left (a b : List Int) (i : Nat) (h : i < a.length) : bv (a ++ b) i = bv a i := by simp [bv, List.getElem?_append_left h]
theorem bv_append_right (a b : List Int) (i : Nat) (h : a.length ≤ i) : bv (a ++ b) i = bv b (i - a.length) := by simp [bv, List.getElem?_append_right h]

end Go.Proofs.Ytpncbcmngfpkfaa

/- Walks: a new table, both sides. -/
namespace Go.Proofs.Ytpncbcmngfpkfaa
open Go.RowKit
set_option linter.unusedVariables false

/-- The pieces of a new table. -/
def newPcs (l : List Int) : List PC := if l.length = 0 then [] else [⟨false, 0, l.length⟩]
/-- A new table. -/
def newT (l : List Int) : TB := ⟨l, [], newPcs l⟩

end Go.Proofs.Ytpncbcmngfpkfaa

/- Walks: NewTable, both sides. -/
namespace Go.Proofs.Ytpncbcmngfpkfaa
open Go.RowKit
set_option linter.unusedVariables false

/-- The code of a new table, and the table beside it. -/
def newCode (l : List Int) : Int := if 240 < l.length then 6 else 0
def newTR (l : List Int) : TB := if 240 < l.length then ⟨[], [], []⟩ else newT l

theorem ob_of_row {w : World} {g n : Nat} {l : List Int} (e : l.length = n) (h : w.rowIs g 5 n (bv l)) : OB w (.slice (some ⟨g, 0, none⟩) n n) l := by
  subst e; exact .inr ⟨g, _, _, _, rfl, Nat.le_refl _, h, Nat.le_refl _, fun _ _ => rfl⟩

end Go.Proofs.Ytpncbcmngfpkfaa

/- Plain mathematics of a table's text; append and copy as one step of a region that draws its order. -/
namespace Go.Proofs.Ytpncbcmngfpkfaa
open Go.RowKit
set_option linter.unusedVariables false

/-- The store that a piece is of. -/
def store (t : TB) (p : PC) : List Int := if p.ad then t.more else t.base
/-- The bytes of a piece. -/
def pbytes (t : TB) (p : PC) : List Int := ((store t p).drop p.fr.toNat).take p.sz.toNat
/-- The text of pieces. -/
def ptext (t : TB) (l : List PC) : List Int := l.flatMap (pbytes t)
/-- The text of a table. -/
def text (t : TB) : List Int := ptext t t.pcs

theorem room_store (t : TB) (p : PC) : room t p = ((store t p).length : Int) := by unfold room store; split <;> rfl

theorem ptext_take (t : TB) (l : List PC) (k : Nat) (h : k < l.length) : ptext t (l.take (k + 1)) = ptext t (l.take k) ++ pbytes t (pc l k) := by
  unfold ptext
  rw [take_snoc l k h, List.flatMap_append, pc_get l k h]
  simp

/-- A piece that lies in its store, in numbers from 0 on. -/
theorem lies_nat {t : TB} {p : PC} (h : lies t p = true) : ∃ f z : Nat, p.fr = f ∧ p.sz = z ∧ 1 ≤ z ∧ f + z ≤ (store t p).length ∧ pbytes t p = ((store t p).drop f).take z ∧ (pbytes t p).length = z := by
  obtain ⟨h1, h2, h3⟩ := lies_bounds h
  rw [room_store] at h3
  refine ⟨p.fr.toNat, p.sz.toNat, by omega, by omega, by omega, by omega, rfl, ?_⟩
  unfold pbytes
  rw [List.length_take, List.length_drop]
  omega

theorem lies_k {t : TB} (h : fault t = 0) (k : Nat) (hk : k < t.pcs.length) : lies t (pc t.pcs k) = true := by
  obtain ⟨_, _, _, ha, _⟩ := fault_zero h
  rw [pc_get _ _ hk]
  exact List.all_eq_true.1 ha _ (List.getElem_mem hk)

theorem ptext_len {t : TB} (h : fault t = 0) : ∀ k, k ≤ t.pcs.length → ((ptext t (t.pcs.take k)).length : Int) = total (t.pcs.take k) := by
  intro k
  induction k with
  | zero => intro _; simp [ptext, total]
  | succ k ih =>
    intro hk
    obtain ⟨f, z, e1, e2, _, _, _, e3⟩ := lies_nat (lies_k h k (by omega))
    rw [ptext_take _ _ _ (by omega), total_take _ _ (by omega), List.length_append, e2, ← ih (by omega), e3]
    omega

theorem text_len {t : TB} (h : fault t = 0) : ((text t).length : Int) = total t.pcs ∧ (text t).length ≤ 240 := by
  have := ptext_len h t.pcs.length (Nat.le_refl _)
  rw [List.take_length] at this
  have h5 := (fault_zero h).2.2.2.2
  unfold text
  omega

theorem ptext_le {t : TB} (h : fault t = 0) (k : Nat) (hk : k ≤ t.pcs.length) : (ptext t (t.pcs.take k)).length ≤ 80000 := by
  have h1 := ptext_len h k hk
  have h2 := (fault_small h).total_le k hk
  have h3 := (fault_small h).1
  omega

/-- Bytes from place f on, z of them. -/
theorem BAt.sub {w : World} {b o f z : Nat} {l : List Int} (hc : ∀ k, k < l.length → w.cell? ⟨b, o + k, none⟩ = some (bv l k)) (hb : b < w.heap.size) (h : f + z ≤ l.length) : BAt w (some ⟨b, o + f, none⟩) ((l.drop f).take z) := by
  refine .inr ⟨b, o + f, rfl, hb, fun k hk => ?_⟩
  rw [List.length_take, List.length_drop] at hk
  have hk' : k < z := by omega
  rw [show o + f + k = o + (f + k) from by omega, hc (f + k) (by omega)]
  unfold bv
  congr 2
  simp [hk']

/-- append(v, x...) as one step of a region that draws its order. -/
theorem step_append_any {P : Program} {ops : Array Oper} {o : Oper} {a : Act} {w : World} {K : Act → World → Prop} {Q : Exit → Act → World → Prop} {E : Prop} (hgd : o.guard = none) (s x : Operand) (t : TypeId)
    (ho : o.op = .call { callee := .builtin .append, args := #[s, x], argTypes := #[t, t] })
    (base : Nat) (e : TypeId) (z : Value) (size bytes : Nat) (ht : P.underlying t = some (.slice e)) (hinfo : (P.info? e).map (fun i => (i.zero, i.size, i.bytes)) = some (some z, size, bytes))
    (hzs : z.cells.size = size) (hsz : 0 < size)
    (v : Value) (n : Nat) (xs : List Value) (hs : a.eval s = v) (hown : w.ownsRow base e size v n xs)
    (ad : Addr) (m c : Nat) (news : List Value) (hx : a.eval x = .slice (some ad) m c) (hl : news.length = m * size)
    (hsrc : ∀ j u, news[j]? = some u → w.cell? (ad.add j) = some u) (h1 : ∀ u ∈ news, u.oneCell' = true)
    (h63 : n + m ≤ maxLen) (hbytes : (n + m) * bytes ≤ 140737488355328) (hbase : base ≤ w.heap.size)
    (h : ∀ v' w', w'.ownsRow base e size v' (n + m) (xs ++ news) → w.grownBy w' v.ownBlock → K (a.put o.dst v') w') :
    if Region.wanted o (yielded ops a.tmps) = true then Oper.wp P o a w K Q else E := by
  have hw : Region.wanted o (yielded ops a.tmps) = true := by simp [Region.wanted, hgd]
  rw [if_pos hw]
  obtain ⟨i, hi, hz0, hz1, hz2⟩ := info_parts hinfo
  exact wp_append_own w s x t ho base e i z size bytes ht hi hz0 hz1 hz2 hzs hsz v n xs hs hown ad m c news hx hl hsrc h1 h63 hbytes hbase fun v' w' h2 h3 _ => h v' w' h2 h3

/-- Behind an append to a row of one's own the cells below B are as they were. -/
theorem grown_cells {B : Nat} {w w1 : World} {row : Option Nat} (hg : w.grownBy w1 row) (hr : ∀ k, row = some k → B ≤ k) (hB : B ≤ w.heap.size) : ∀ b o, b < B → w1.cell? ⟨b, o, none⟩ = w.cell? ⟨b, o, none⟩ := by
  intro b o hb
  exact World.cell?_of_block (hg.block b (by omega) (fun e => by have := hr b e.symm; omega))

theorem BAt.cells {w : World} {ad : Addr} {l : List Int} (h : BAt w (some ad) l) : ∀ j u, (bcs l)[j]? = some u → w.cell? (ad.add j) = some u := by
  rcases h.src with h0 | ⟨ad', e, hc⟩
  · have : l = [] := List.eq_nil_of_length_eq_zero h0
    subst this
    intro j u hj
    simp [bcs] at hj
  · cases e; exact hc

theorem own_lo {w : World} {base : Nat} {e : TypeId} {size : Nat} {v : Value} {n : Nat} {xs : List Value} (h : w.ownsRow base e size v n xs) : ∀ k, v.ownBlock = some k → base ≤ k := fun k hk => (h.lt k hk).1

/-- copy into a row of bytes of one's own, as one step of a region that draws its order. -/
theorem step_copy_any {P : Program} {ops : Array Oper} {op : Oper} {a : Act} {w : World} {K : Act → World → Prop} {Q : Exit → Act → World → Prop} {E : Prop} (hgd : op.guard = none) (d s : Operand) (dT sT : TypeId)
    (ho : op.op = .call { callee := .builtin .copy, args := #[d, s], argTypes := #[dT, sT] }) (hu : P.underlying dT = some (.slice 5)) (hs : (P.info? 5).map (·.size) = some 1)
    (g o dn dc : Nat) (hd : a.eval d = .slice (some ⟨g, o, none⟩) dn dc) (ax : Option Addr) (m c : Nat) (hx : a.eval s = .slice ax m c) (l : List Int) (hm : l.length = m) (cn : Nat) (f : Nat → Value) (hr : w.rowIs g 5 cn f)
    (ha : BAt w ax l) (h1 : m ≤ dn) (h2 : o + m ≤ cn)
    (h : ∀ w', w'.rowIs g 5 cn (fun j => if o ≤ j ∧ j < o + m then bv l (j - o) else f j) → KeptIn g (g + 1) w w' → K (a.put op.dst (goInt m)) w') :
    if Region.wanted op (yielded ops a.tmps) = true then Oper.wp P op a w K Q else E := by
  have hw : Region.wanted op (yielded ops a.tmps) = true := by simp [Region.wanted, hgd]
  rw [if_pos hw]
  subst hm
  obtain ⟨w', hrun, hr', hk'⟩ := copy_row (P := P) dT sT op.type hu hs o dn dc hr ax c l ha h1 h2
  unfold Oper.wp
  simp [execOp, ho, resolve, invoke, builtin, hd, hx, hrun, Result.andThen]
  exact h w' hr' hk'

/-- What the text holds when the bytes of k pieces are copied. -/
def tpart (t : TB) (k j : Nat) : Value := if j < (ptext t (t.pcs.take k)).length then bv (text t) j else .int .u8 0

theorem text_split (t : TB) (k : Nat) : text t = ptext t (t.pcs.take k) ++ ptext t (t.pcs.drop k) := by
  unfold text ptext
  rw [← List.flatMap_append, List.take_append_drop]

theorem tpart_step {t : TB} {w : World} {g T k z : Nat} (hk : k < t.pcs.length) (hz : (pbytes t (pc t.pcs k)).length = z) (h : w.rowIs g 5 T (fun j => if (ptext t (t.pcs.take k)).length ≤ j ∧ j < (ptext t (t.pcs.take k)).length + z then bv (pbytes t (pc t.pcs k)) (j - (ptext t (t.pcs.take k)).length) else tpart t k j)) :
    w.rowIs g 5 T (tpart t (k + 1)) := by
  refine h.congr (fun j _ => ?_)
  have e := ptext_take t t.pcs k hk
  have el : (ptext t (t.pcs.take (k + 1))).length = (ptext t (t.pcs.take k)).length + z := by rw [e, List.length_append, hz]
  have es := text_split t (k + 1)
  by_cases c1 : j < (ptext t (t.pcs.take k)).length
  · rw [if_neg (by omega)]; unfold tpart; rw [if_pos c1, if_pos (by omega)]
  · by_cases c2 : j < (ptext t (t.pcs.take k)).length + z
    · rw [if_pos (by omega)]; unfold tpart; rw [if_pos (by omega), es, bv_append_left _ _ _ (by omega), e, bv_append_right _ _ _ (by omega)]
    · rw [if_neg (by omega)]; unfold tpart; rw [if_neg c1, if_neg (by omega)]

theorem tpart_end {t : TB} {w : World} {g : Nat} (h : w.rowIs g 5 (text t).length (tpart t t.pcs.length)) : w.rowIs g 5 (text t).length (bv (text t)) :=
  h.congr (fun j hj => by unfold tpart; rw [List.take_length]; exact if_pos hj)

theorem ptext_le_text {t : TB} (k : Nat) (hk : k < t.pcs.length) : (ptext t (t.pcs.take k)).length + (pbytes t (pc t.pcs k)).length ≤ (text t).length := by
  have e := congrArg List.length (text_split t (k + 1))
  rw [ptext_take t t.pcs k hk] at e
  simp only [List.length_append] at e
  omega

theorem grown_frozen {B : Nat} {w w1 : World} {row : Option Nat} (hg : w.grownBy w1 row) (hr : ∀ k, row = some k → B ≤ k) (hB : B ≤ w.heap.size) : ∀ b o, b < B → w1.frozen? ⟨b, o, none⟩ = w.frozen? ⟨b, o, none⟩ := by
  intro b o hb
  exact World.frozen?_of_block (hg.block b (by omega) (fun e => by have := hr b e.symm; omega))

end Go.Proofs.Ytpncbcmngfpkfaa

/- Walks: the text of a table, the model's side. -/
namespace Go.Proofs.Ytpncbcmngfpkfaa
open Go.RowKit
set_option linter.unusedVariables false

theorem kept2 (w : World) (g o1 o2 : Nat) (v1 v2 : Value) : KeptIn g (g + 1) w ((w.setCell ⟨g, o1, none⟩ v1).setCell ⟨g, o2, none⟩ v2) :=
  ((KeptIn.refl g (g + 1) w).setCell (p := ⟨g, o1, none⟩) (Nat.le_refl _) (Nat.lt_succ_self _) _).setCell (p := ⟨g, o2, none⟩) (Nat.le_refl _) (Nat.lt_succ_self _) _

/-- The store of a piece, as a slice in memory. -/
theorem store_at {w : World} {a1 a2 : Option Addr} {c1 c2 : Nat} {t : TB} (p : PC) (h1 : BAt w a1 t.base) (h2 : BAt w a2 t.more) (h0 : 0 < (store t p).length) (k1 : t.base.length ≤ c1) (k2 : t.more.length ≤ c2) :
    ∃ b o c, (if p.ad then Value.slice a2 t.more.length c2 else Value.slice a1 t.base.length c1) = .slice (some ⟨b, o, none⟩) (store t p).length c ∧ (store t p).length ≤ c ∧ b < w.heap.size ∧ ∀ k, k < (store t p).length → w.cell? ⟨b, o + k, none⟩ = some (bv (store t p) k) := by
  unfold store at *
  cases hp : p.ad <;> rw [hp] at h0
  · rcases h1 with h1 | ⟨b, o, rfl, hb, hc⟩
    · simp [h1] at h0
    · exact ⟨b, o, c1, rfl, k1, hb, hc⟩
  · rcases h2 with h2 | ⟨b, o, rfl, hb, hc⟩
    · simp [h2] at h0
    · exact ⟨b, o, c2, rfl, k2, hb, hc⟩

/-- The bytes that are told beside the code. -/
def textVal (t : TB) : List Int := if fault t = 0 then text t else []

end Go.Proofs.Ytpncbcmngfpkfaa

/- Walks: the text of a table, the program's side. -/
namespace Go.Proofs.Ytpncbcmngfpkfaa
open Go.RowKit
set_option linter.unusedVariables false

end Go.Proofs.Ytpncbcmngfpkfaa

/- An attribute of a token, both sides. -/
namespace Go.Proofs.Ytpncbcmngfpkfaa
open Go.RowKit
set_option linter.unusedVariables false
set_option linter.unusedSimpArgs false

/-- The code and the value of an attribute that is asked for. -/
def aoCode (t : TK) (s : ByteArray) : Int := if tfault t = 0 then (if 0 ≤ posK t.at_ s then 0 else 4) else tfault t
def aoVal (t : TK) (s : ByteArray) : List Int := if tfault t = 0 then (if 0 ≤ posK t.at_ s then (atK t.at_ (posK t.at_ s).toNat).vl else []) else []

theorem posFrom_lt : ∀ (l : List AT) (s : ByteArray) (n : Nat), posFrom l s n = -1 ∨ ∃ k : Nat, k < l.length ∧ posFrom l s n = ((n + k : Nat) : Int)
  | [], _, _ => .inl rfl
  | x :: r, s, n => by
    unfold posFrom
    by_cases h : (x.nm.toList == s.toList) = true
    · rw [if_pos h]; exact .inr ⟨0, by simp, by simp⟩
    · rw [if_neg h]
      rcases posFrom_lt r s (n + 1) with h' | ⟨k, h1, h2⟩
      · exact .inl h'
      · exact .inr ⟨k + 1, by simp; omega, by rw [h2]; congr 1; omega⟩
theorem posK_lt (l : List AT) (s : ByteArray) : posK l s = -1 ∨ ∃ k : Nat, k < l.length ∧ posK l s = (k : Int) := by
  rcases posFrom_lt l s 0 with h | ⟨k, h1, h2⟩
  · exact .inl h
  · exact .inr ⟨k, h1, by unfold posK; rw [h2, Nat.zero_add]⟩

end Go.Proofs.Ytpncbcmngfpkfaa

/- An attribute of a token: the program. -/
namespace Go.Proofs.Ytpncbcmngfpkfaa
open Go.RowKit
set_option linter.unusedVariables false
set_option linter.unusedSimpArgs false

end Go.Proofs.Ytpncbcmngfpkfaa

/- Walks: marks are laid into a token's attributes. -/
namespace Go.Proofs.Ytpncbcmngfpkfaa
open Go.RowKit
set_option linter.unusedVariables false
set_option linter.unusedSimpArgs false

/-- The text that bytes are. -/
def strI (l : List Int) : ByteArray := l.foldl (fun r n => r.push (UInt8.ofNat n.toNat)) ByteArray.empty

theorem conv_bytesT {w : World} {a : Option Addr} {l : List Int} (c : Nat) (h : BAt w a l) : (convert 52 9 (.slice a l.length c)).run Try.prog w = .ok (.string (strI l)) w := by
  rw [run_convert_bytes_string (P := Try.prog) w 52 9 5 a l.length c Try.underlying52 Try.underlying5 Try.underlying9]
  cases a with
  | none =>
    rcases h with h | ⟨b, o, e, _⟩
    · subst h
      simp [Conv.bytesToString, strI, Sem.run_pure]
    · cases e
  | some ad =>
    refine run_bytesToString w ad l.length c l ?_
    have hk := run_loadCells_list (P := Try.prog) w ad (l.map (Value.int .u8)) (fun j v hj => by
      rcases h with h | ⟨b, o, e, _, hc⟩
      · subst h; simp at hj
      · cases e
        have hjl : j < l.length := by
          have := (List.getElem?_eq_some_iff.1 hj).1
          simpa using this
        have := hc j hjl
        rw [List.getElem?_map] at hj
        rw [show (⟨b, o, none⟩ : Addr).add j = ⟨b, o + j, none⟩ from by unfold Addr.add; split; (rename_i h0; rw [h0]; rfl); rfl, this]
        simp [bv, List.getD_eq_getElem?_getD] at hj ⊢
        obtain ⟨x, hx, rfl⟩ := hj
        simp [hx])
    simpa using hk

theorem conv_one (w : World) (x : Int) : (convert 52 9 (.slice (some ⟨w.heap.size, 0, none⟩) 1 1)).run Try.prog (w.alloc (.cells #[.int .u8 x] 5)) = .ok (.string (strI [x])) (w.alloc (.cells #[.int .u8 x] 5)) :=
  conv_bytesT (l := [x]) 1 (.inr ⟨_, _, rfl, by simp, fun k hk => by
    obtain rfl : k = 0 := by simpa using hk
    simp [bv]⟩)
theorem strI_one (x : Int) : (strI [x]).size = 1 := rfl

/-- Rows of attributes of one's own: their blocks, and how many bytes each value has. -/
def MR (g hi : Nat) (l : List AT) (w : World) : Prop := ∃ f, w.rowIs g 87 (l.length * 2) f ∧ g < hi ∧ ∀ j, j < l.length → (∃ s, f (j * 2) = .string s) ∧ ∃ b, f (j * 2 + 1) = .slice (some ⟨b, 0, none⟩) (atK l j).vl.length (atK l j).vl.length ∧ g < b ∧ b < hi ∧ ∃ fb, w.rowIs b 5 (atK l j).vl.length fb

theorem AO.mr {g : Nat} {l : List AT} {w : World} (h : AO g l w) : MR g w.heap.size l w := by
  obtain ⟨f, hf, hj⟩ := h
  refine ⟨f, hf, hf.lt, fun j hk => ?_⟩
  obtain ⟨h1, b, h2, h3, h4⟩ := hj j hk
  exact ⟨⟨_, h1⟩, b, h2, h3, h4.lt, _, h4⟩

theorem MR.below {g hi : Nat} {l : List AT} {w w1 : World} (h : MR g hi l w) (hb : Below w.heap.size w w1) : MR g hi l w1 := by
  obtain ⟨f, hf, hg, hj⟩ := h
  refine ⟨f, rowB hf hb, hg, fun j hk => ?_⟩
  obtain ⟨h1, b, h2, h3, h4, fb, h5⟩ := hj j hk
  exact ⟨h1, b, h2, h3, h4, fb, rowB h5 hb⟩

/-- A name is turned. -/
theorem MR.name {g hi k : Nat} {l : List AT} {w : World} (h : MR g hi l w) (hk : k < l.length) (s : ByteArray) : MR g hi l (w.setCell ⟨g, k * 2, none⟩ (.string s)) := by
  obtain ⟨f, hf, hg, hj⟩ := h
  have K : KeptIn g (g + 1) w (w.setCell ⟨g, k * 2, none⟩ (.string s)) := (KeptIn.refl _ _ w).setCell (p := ⟨g, k * 2, none⟩) (Nat.le_refl _) (Nat.lt_succ_self _) _
  refine ⟨_, hf.set (k * 2) _, hg, fun j hjl => ?_⟩
  obtain ⟨⟨s1, h1⟩, b, h2, h3, h4, fb, h5⟩ := hj j hjl
  refine ⟨?_, b, ?_, h3, h4, fb, rowK h5 K (.inr h3)⟩
  · by_cases e : j = k
    · subst e; exact ⟨s, by rw [if_pos rfl]⟩
    · exact ⟨s1, by rw [if_neg (by omega)]; exact h1⟩
  · rw [if_neg (by omega)]; exact h2

theorem row_len {w : World} {b n m : Nat} {t t' : TypeId} {f f' : Nat → Value} (h : w.rowIs b t n f) (h' : w.rowIs b t' m f') : n = m := by
  obtain ⟨cs, h1, h2, _⟩ := h
  obtain ⟨cs', h1', h2', _⟩ := h'
  have e := h1.symm.trans h1'
  simp at e
  rw [← h2, ← h2', e.1]

/-- The bytes of one value are turned. -/
theorem MR.value {g hi k b : Nat} {l : List AT} {w w1 : World} {fb : Nat → Value} (h : MR g hi l w) (hgb : g < b) (hb : b < hi) (hr : w1.rowIs b 5 (atK l k).vl.length fb) {f0 : Nat → Value} (hrw : w.rowIs b 5 (atK l k).vl.length f0) (hk : KeptIn b (b + 1) w w1) : MR g hi l w1 := by
  obtain ⟨f, hf, hg, hj⟩ := h
  refine ⟨f, rowK hf hk (.inl hgb), hg, fun j hjl => ?_⟩
  obtain ⟨h1, b', h2, h3, h4, fb', h5⟩ := hj j hjl
  by_cases e : b' = b
  · subst e
    have e2 := row_len h5 hrw
    rw [e2] at h2 ⊢
    exact ⟨h1, b', h2, h3, h4, fb, hr⟩
  · exact ⟨h1, b', h2, h3, h4, fb', rowK h5 hk (by omega)⟩

def vsz : List AT → Nat
  | [] => 0
  | x :: r => x.vl.length + vsz r
theorem vsz_take (l : List AT) : ∀ k, k < l.length → vsz (l.take (k + 1)) = vsz (l.take k) + (atK l k).vl.length := by
  induction l with
  | nil => intro k h; exact absurd h (Nat.not_lt_zero _)
  | cons x r ih =>
    intro k hk
    cases k with
    | zero => simp [vsz, atK]
    | succ k =>
      have := ih k (by simpa using hk)
      simp only [List.take_succ_cons, vsz]
      rw [this]
      have e : atK (x :: r) (k + 1) = atK r k := by simp [atK]
      rw [e]; omega
theorem vsz_le (l : List AT) (k : Nat) : vsz (l.take k) ≤ asz l := by
  induction l generalizing k with
  | nil => simp [vsz]
  | cons x r ih =>
    cases k with
    | zero => simp [vsz]
    | succ k => simp only [List.take_succ_cons, vsz, asz]; have := ih k; omega

end Go.Proofs.Ytpncbcmngfpkfaa

/- Marks in lists of nodes of one's own. -/
namespace Go.Proofs.Ytpncbcmngfpkfaa
open Go.RowKit
set_option linter.unusedVariables false
set_option linter.unusedSimpArgs false

/-- What lies from g on and below hi stays. -/
theorem MR.keep {hi g : Nat} {l : List AT} {w w' : World} (h : MR g hi l w) (hk : ∀ k, g ≤ k → k < hi → k < w.heap.size → w'.heap[k]? = w.heap[k]?) : MR g hi l w' := by
  obtain ⟨f, hf, hg, hj⟩ := h
  refine ⟨f, hf.of_block (hk g (Nat.le_refl _) hg hf.lt), hg, fun j hl => ?_⟩
  obtain ⟨h1, b, h2, h3, h4, fb, h5⟩ := hj j hl
  exact ⟨h1, b, h2, h3, h4, fb, h5.of_block (hk b (by omega) h4 h5.lt)⟩

theorem MR.lt {hi g : Nat} {l : List AT} {w : World} (h : MR g hi l w) : g < hi := by obtain ⟨_, _, h, _⟩ := h; exact h

theorem AOh.mr {hi g : Nat} {l : List AT} {w : World} (h : AOh hi g l w) : MR g hi l w := by
  obtain ⟨f, hf, hg, hj⟩ := h
  refine ⟨f, hf, hg, fun j hl => ?_⟩
  obtain ⟨h1, b, h2, h3, h4, h5⟩ := hj j hl
  exact ⟨⟨_, h1⟩, b, h2, h3, h4, _, h5⟩

/-- A node of one's own, whatever it holds; its rows lie from lo on and below hi. -/
def MO (lo hi : Nat) (t : ND) (f : Nat → Value) (j : Nat) (w : World) : Prop :=
  (∃ u, f (j * 4) = .int .i64 u) ∧ (∃ s, f (j * 4 + 1) = .string s) ∧ ∃ g b, f (j * 4 + 2) = .slice (some ⟨g, 0, none⟩) t.at_.length t.at_.length ∧ f (j * 4 + 3) = .slice (some ⟨b, 0, none⟩) t.tx.length t.tx.length ∧ lo ≤ g ∧ b < hi ∧ MR g b t.at_ w ∧ ∃ fb, w.rowIs b 5 t.tx.length fb

theorem MO.keep {lo hi : Nat} {t : ND} {f f' : Nat → Value} {j : Nat} {w w' : World} (h : MO lo hi t f j w) (hf : ∀ i, i < 4 → f' (j * 4 + i) = f (j * 4 + i)) (hk : ∀ k, lo ≤ k → k < hi → k < w.heap.size → w'.heap[k]? = w.heap[k]?) : MO lo hi t f' j w' := by
  obtain ⟨⟨u, h1⟩, ⟨s, h2⟩, g, b, h3, h4, h5, h6, h7, fb, h8⟩ := h
  have hl := h7.lt
  exact ⟨⟨u, (hf 0 (by omega)).trans h1⟩, ⟨s, (hf 1 (by omega)).trans h2⟩, g, b, (hf 2 (by omega)).trans h3, (hf 3 (by omega)).trans h4, h5, h6, h7.keep (fun k a c d => hk k (by omega) (by omega) d), fb, h8.of_block (hk b (by omega) h6 h8.lt)⟩

/-- Nodes of one's own at g, whatever they hold; hi: behind all their rows. -/
def NM (g hi : Nat) (l : List ND) (w : World) : Prop := ∃ (f : Nat → Value) (s : Nat → Nat), w.rowIs g 60 (l.length * 4) f ∧ g < s 0 ∧ s l.length = hi ∧ hi ≤ w.heap.size ∧ (∀ j, j < l.length → s j ≤ s (j + 1)) ∧ ∀ j, j < l.length → MO (s j) (s (j + 1)) (ndK l j) f j w

theorem NR.nm {w wr : World} {l : List ND} (h : NR w l l.length wr) : ∃ hi, w.heap.size < hi ∧ hi ≤ wr.heap.size ∧ NM w.heap.size hi l wr := by
  obtain ⟨f, s, hf, h0, h1, h2, hj⟩ := h.row
  refine ⟨s l.length, Nat.lt_of_lt_of_le h0 (mono_s h2 _ (Nat.le_refl _)), h1, f, s, hf, h0, rfl, h1, h2, fun j hl => ?_⟩
  obtain ⟨e1, e2, g, b, e3, e4, h5, h6, h7, h8⟩ := hj j hl
  exact ⟨⟨_, e1⟩, ⟨_, e2⟩, g, b, e3, e4, h5, h6, h7.mr, _, h8⟩

theorem mono_s2 {s : Nat → Nat} {n : Nat} (h : ∀ j, j < n → s j ≤ s (j + 1)) {i : Nat} : ∀ j, i ≤ j → j ≤ n → s i ≤ s j
  | 0, hi, _ => by have : i = 0 := by omega
                   subst this; exact Nat.le_refl _
  | j + 1, hi, hj => by
    by_cases e : i = j + 1
    · subst e; exact Nat.le_refl _
    · exact Nat.le_trans (mono_s2 h j (by omega) (by omega)) (h j (by omega))

/-- What is below the nodes or behind them may turn. -/
theorem NM.keep {g hi : Nat} {l : List ND} {w w' : World} (h : NM g hi l w) (hs : w.heap.size ≤ w'.heap.size) (hk : ∀ k, g ≤ k → k < hi → k < w.heap.size → w'.heap[k]? = w.heap[k]?) : NM g hi l w' := by
  obtain ⟨f, s, hf, h0, h1, h2, h3, hj⟩ := h
  have m0 := mono_s2 h3 (i := 0) l.length (by omega) (Nat.le_refl _)
  refine ⟨f, s, hf.of_block (hk g (Nat.le_refl _) (by omega) hf.lt), h0, h1, Nat.le_trans h2 hs, h3, fun j hl => (hj j hl).keep (fun _ _ => rfl) (fun i a c d => ?_)⟩
  have m1 := mono_s2 h3 (i := 0) j (by omega) (by omega)
  have m2 := mono_s2 h3 (i := j + 1) l.length (by omega) (Nat.le_refl _)
  exact hk i (by omega) (by omega) d

/-- A cell of the row of nodes is turned, that holds a number or a text. -/
theorem NM.cell {g hi k i : Nat} {l : List ND} {w : World} {v : Value} (h : NM g hi l w) (hk : k < l.length) (hi2 : i < 2) (hv : (i = 0 ∧ ∃ u, v = .int .i64 u) ∨ (i = 1 ∧ ∃ s, v = .string s)) : NM g hi l (w.setCell ⟨g, k * 4 + i, none⟩ v) := by
  obtain ⟨f, s, hf, h0, h1, h2, h3, hj⟩ := h
  have K : KeptIn g (g + 1) w (w.setCell ⟨g, k * 4 + i, none⟩ v) := (KeptIn.refl _ _ w).setCell (p := ⟨g, k * 4 + i, none⟩) (Nat.le_refl _) (Nat.lt_succ_self _) _
  refine ⟨_, s, hf.set (k * 4 + i) v, h0, h1, by simpa [World.setCell] using h2, h3, fun j hl => ?_⟩
  have m1 := mono_s2 h3 (i := 0) j (by omega) (by omega)
  have kp : ∀ q, s j ≤ q → q < s (j + 1) → q < w.heap.size → (w.setCell ⟨g, k * 4 + i, none⟩ v).heap[q]? = w.heap[q]? := fun q a c d => K.block q d (by omega)
  by_cases e : j = k
  · subst e
    obtain ⟨⟨u, e1⟩, ⟨s', e2⟩, g', b, e3, e4, h5, h6, h7, fb, h8⟩ := hj j hl
    have hlt := h7.lt
    refine ⟨?_, ?_, g', b, ?_, ?_, h5, h6, h7.keep (fun q a c d => kp q (by omega) (by omega) d), fb, h8.of_block (kp b (by omega) h6 h8.lt)⟩
    · rcases hv with ⟨rfl, u', rfl⟩ | ⟨rfl, s'', rfl⟩
      · exact ⟨u', by dsimp only; rw [if_pos (by omega)]⟩
      · exact ⟨u, by dsimp only; rw [if_neg (by omega)]; exact e1⟩
    · rcases hv with ⟨rfl, u', rfl⟩ | ⟨rfl, s'', rfl⟩
      · exact ⟨s', by dsimp only; rw [if_neg (by omega)]; exact e2⟩
      · exact ⟨s'', by dsimp only; rw [if_pos rfl]⟩
    · dsimp only; rw [if_neg (by omega)]; exact e3
    · dsimp only; rw [if_neg (by omega)]; exact e4
  · exact (hj j hl).keep (fun q hq => by rw [if_neg (by omega)]) kp

/-- The attributes of one node are marked. -/
theorem NM.attrs {g hi k : Nat} {l : List ND} {w : World} (h : NM g hi l w) (hk : k < l.length) : ∃ ga b, w.cell? ⟨g, k * 4 + 2, none⟩ = some (.slice (some ⟨ga, 0, none⟩) (ndK l k).at_.length (ndK l k).at_.length) ∧ w.cell? ⟨g, k * 4 + 3, none⟩ = some (.slice (some ⟨b, 0, none⟩) (ndK l k).tx.length (ndK l k).tx.length) ∧ g < ga ∧ ga < b ∧ b < hi ∧ hi ≤ w.heap.size ∧ MR ga b (ndK l k).at_ w ∧ (∃ fb, w.rowIs b 5 (ndK l k).tx.length fb) ∧
    (∀ w', KeptIn ga b w w' → MR ga b (ndK l k).at_ w' → NM g hi l w') ∧ (∀ w' fb', KeptIn b (b + 1) w w' → w'.rowIs b 5 (ndK l k).tx.length fb' → NM g hi l w') := by
  obtain ⟨f, s, hf, h0, h1, h2, h3, hj⟩ := h
  obtain ⟨e1, e2, ga, b, e3, e4, h5, h6, h7, fb, h8⟩ := hj k hk
  have hlt := h7.lt
  have m0 := mono_s2 h3 (i := 0) k (by omega) (by omega)
  have m2 := mono_s2 h3 (i := k + 1) l.length (by omega) (Nat.le_refl _)
  have others : ∀ (w' : World) (lo' hi' : Nat), KeptIn lo' hi' w w' → s k ≤ lo' → hi' ≤ s (k + 1) → ∀ j, j < l.length → ¬ j = k → MO (s j) (s (j + 1)) (ndK l j) f j w' := fun w' lo' hi' K a c j hl hne =>
    (hj j hl).keep (fun _ _ => rfl) (fun q x y z => K.block q z (by
      rcases Nat.lt_or_gt_of_ne hne with hlt' | hgt
      · have := mono_s2 h3 (i := j + 1) k (by omega) (by omega); omega
      · have := mono_s2 h3 (i := k + 1) j (by omega) (by omega); omega))
  refine ⟨ga, b, by rw [hf.cell (by omega), e3], by rw [hf.cell (by omega), e4], by omega, hlt, by omega, h2, h7, ⟨fb, h8⟩, fun w' K hM => ?_, fun w' fb' K hR => ?_⟩
  · refine ⟨f, s, rowK hf K (.inl (by omega)), h0, h1, Nat.le_trans h2 K.size, h3, fun j hl => ?_⟩
    by_cases e : j = k
    · subst e
      exact ⟨e1, e2, ga, b, e3, e4, h5, h6, hM, fb, rowK h8 K (.inr (Nat.le_refl _))⟩
    · exact others w' ga b K h5 (by omega) j hl e
  · refine ⟨f, s, rowK hf K (.inl (by omega)), h0, h1, Nat.le_trans h2 K.size, h3, fun j hl => ?_⟩
    by_cases e : j = k
    · subst e
      exact ⟨e1, e2, ga, b, e3, e4, h5, h6, h7.keep (fun q x y z => K.block q z (by omega)), fb', hR⟩
    · exact others w' b (b + 1) K (by omega) (by omega) j hl e

theorem vsz_asz (l : List AT) : vsz l ≤ asz l := by have := vsz_le l l.length; rwa [List.take_length] at this

end Go.Proofs.Ytpncbcmngfpkfaa
