/- Ways: the places that a place is in, the outermost first. -/
import Derived.WalkKit
import Derived.Test.YtlaeomnacgjcgaaR2
import Derived.Test.YtlaeomnacgjcgaaS14
import Derived.Test.YtlaeomnacgjcgaaS16
set_option linter.unusedVariables false
set_option linter.unusedSimpArgs false
namespace Go.Proofs.Ytlaeomnacgjcgaa

def wv (l : List Int) (i : Nat) : Int := l.getD i 0

theorem wv_get {l : List Int} {i : Nat} (h : i < l.length) : l[i]? = some (wv l i) := by simp [wv, h]
theorem wv_take {l : List Int} {i n : Nat} (h : i < n) : wv (l.take n) i = wv l i := by
  unfold wv
  rw [List.getD_eq_getElem?_getD, List.getD_eq_getElem?_getD, List.getElem?_take_of_lt h]
theorem wv_left {l m : List Int} {i : Nat} (h : i < l.length) : wv (l ++ m) i = wv l i := by
  unfold wv
  rw [List.getD_eq_getElem?_getD, List.getD_eq_getElem?_getD, List.getElem?_append_left h]
theorem wv_end {l : List Int} {x : Int} : wv (l ++ [x]) l.length = x := by simp [wv]

def ixF : List Int → Int → Nat
  | [], _ => 0
  | x :: r, y => if x = y then 0 else ixF r y + 1

theorem ixF_at {l : List Int} {y : Int} (h : ixF l y < l.length) : wv l (ixF l y) = y := by
  induction l with
  | nil => simp at h
  | cons x r ih =>
    unfold ixF at h ⊢
    by_cases e : x = y
    · rw [if_pos e]; exact e
    · rw [if_neg e] at h ⊢
      have := ih (by simpa using h)
      unfold wv at this ⊢
      simpa using this

theorem ixF_found : ∀ (l : List Int) (y : Int) (k : Nat), k < l.length → (∀ j, j < k → ¬ wv l j = y) → wv l k = y → ixF l y = k
  | [], _, _, h, _, _ => absurd h (Nat.not_lt_zero _)
  | x :: r, y, 0, _, _, e => by
    have : x = y := e
    unfold ixF; rw [if_pos this]
  | x :: r, y, k + 1, h, hn, e => by
    have h0 : ¬ x = y := hn 0 (by omega)
    have := ixF_found r y k (by simpa using h) (fun j hj => by have := hn (j + 1) (by omega); simpa [wv] using this) (by simpa [wv] using e)
    unfold ixF; rw [if_neg h0, this]

theorem ixF_none : ∀ (l : List Int) (y : Int), (∀ j, j < l.length → ¬ wv l j = y) → ixF l y = l.length
  | [], _, _ => rfl
  | x :: r, y, hn => by
    have h0 : ¬ x = y := hn 0 (by simp)
    have := ixF_none r y (fun j hj => by have := hn (j + 1) (by simpa using hj); simpa [wv] using this)
    unfold ixF; rw [if_neg h0, this]; rfl

def wayU (u : Nat → Int) : Nat → List Int
  | 0 => [-1]
  | k + 1 => (wayU u k).take (ixF (wayU u k) (u k) + 1) ++ [(k : Int)]

def depU (u : Nat → Int) (k : Nat) : Nat := ixF (wayU u k) (u k)

structure GoodW (u : Nat → Int) (k : Nat) (l : List Int) : Prop where
  ne : 0 < l.length
  le : l.length ≤ k + 1
  hd : wv l 0 = -1
  last : wv l (l.length - 1) = (k : Int) - 1
  ch : ∀ i, i + 1 < l.length → 0 ≤ wv l (i + 1) ∧ wv l i = u (wv l (i + 1)).toNat ∧ wv l i < wv l (i + 1)

theorem GoodW.mono {u : Nat → Int} {k : Nat} {l : List Int} (h : GoodW u k l) {i : Nat} : ∀ {j}, i < j → j < l.length → wv l i < wv l j
  | 0, hi, _ => absurd hi (Nat.not_lt_zero _)
  | j + 1, hi, hj => by
    have h1 := (h.ch j hj).2.2
    by_cases e : i = j
    · subst e; exact h1
    · have := h.mono (i := i) (j := j) (by omega) (by omega)
      omega

theorem GoodW.lo {u : Nat → Int} {k : Nat} {l : List Int} (h : GoodW u k l) {i : Nat} (hi : i < l.length) : -1 ≤ wv l i := by
  by_cases e : i = 0
  · subst e; rw [h.hd]; omega
  · have := h.mono (i := 0) (j := i) (by omega) hi
    rw [h.hd] at this; omega

theorem GoodW.pos {u : Nat → Int} {k : Nat} {l : List Int} (h : GoodW u k l) {i : Nat} (h0 : 0 < i) (hi : i < l.length) : 0 ≤ wv l i := by
  have := h.mono (i := 0) (j := i) h0 hi
  rw [h.hd] at this; omega

theorem GoodW.hi {u : Nat → Int} {k : Nat} {l : List Int} (h : GoodW u k l) {i : Nat} (hi : i < l.length) : wv l i < k := by
  by_cases e : i = l.length - 1
  · subst e; rw [h.last]; omega
  · have := h.mono (i := i) (j := l.length - 1) (by omega) (by omega)
    rw [h.last] at this; omega

theorem GoodW.one {u : Nat → Int} {k : Nat} {l : List Int} (h : GoodW u k l) {i j : Nat} (hi : i < l.length) (hj : j < l.length) (e : wv l i = wv l j) : i = j := by
  by_cases c : i < j
  · have := h.mono c hj; omega
  · by_cases c' : j < i
    · have := h.mono c' hi; omega
    · omega

theorem GoodW.ix {u : Nat → Int} {k : Nat} {l : List Int} (h : GoodW u k l) {i : Nat} (hi : i < l.length) : ixF l (wv l i) = i :=
  ixF_found l _ i hi (fun j hj e => by have := h.one (by omega) hi e; omega) rfl

theorem good_way (u : Nat → Int) : ∀ k, (∀ j, j < k → depU u j < (wayU u j).length) → GoodW u k (wayU u k)
  | 0, _ => ⟨by simp [wayU], by simp [wayU], rfl, by simp [wayU, wv], fun i hi => by simp [wayU] at hi⟩
  | k + 1, h => by
    have G := good_way u k (fun j hj => h j (by omega))
    have hd : depU u k < (wayU u k).length := h k (by omega)
    have hat : wv (wayU u k) (depU u k) = u k := ixF_at hd
    have e : wayU u (k + 1) = (wayU u k).take (depU u k + 1) ++ [(k : Int)] := rfl
    have ln : ((wayU u k).take (depU u k + 1)).length = depU u k + 1 := by rw [List.length_take]; omega
    have L : (wayU u (k + 1)).length = depU u k + 2 := by rw [e, List.length_append, ln]; rfl
    have lo : ∀ i, i < depU u k + 1 → wv (wayU u (k + 1)) i = wv (wayU u k) i := fun i hi => by
      rw [e, wv_left (by omega), wv_take hi]
    have en : wv (wayU u (k + 1)) (depU u k + 1) = (k : Int) := by
      rw [e, show depU u k + 1 = ((wayU u k).take (depU u k + 1)).length from ln.symm, ln]
      have := wv_end (l := (wayU u k).take (depU u k + 1)) (x := (k : Int))
      rw [ln] at this; exact this
    refine ⟨by omega, by have := G.le; omega, ?_, ?_, fun i hi => ?_⟩
    · rw [lo 0 (by omega), G.hd]
    · rw [L, show depU u k + 2 - 1 = depU u k + 1 by omega, en]; omega
    · rw [L] at hi
      by_cases c : i = depU u k
      · subst c
        rw [en, lo _ (by omega), hat]
        have := G.hi hd
        rw [hat] at this
        exact ⟨by omega, by rw [Int.toNat_natCast], this⟩
      · rw [lo i (by omega), lo (i + 1) (by omega)]
        exact G.ch i (by omega)

theorem way_succ (u : Nat → Int) (k : Nat) (hd : depU u k < (wayU u k).length) : (wayU u (k + 1)).length = depU u k + 2 ∧ (∀ i, i < depU u k + 1 → wv (wayU u (k + 1)) i = wv (wayU u k) i) ∧ wv (wayU u (k + 1)) (depU u k + 1) = (k : Int) := by
  have e : wayU u (k + 1) = (wayU u k).take (depU u k + 1) ++ [(k : Int)] := rfl
  have ln : ((wayU u k).take (depU u k + 1)).length = depU u k + 1 := by rw [List.length_take]; omega
  refine ⟨by rw [e, List.length_append, ln]; rfl, fun i hi => by rw [e, wv_left (by omega), wv_take hi], ?_⟩
  have := wv_end (l := (wayU u k).take (depU u k + 1)) (x := (k : Int))
  rw [ln] at this; rw [e]; exact this

def firstF (f : Nat → Int) : Nat → Nat → Int
  | 0, _ => 0
  | n + 1, k => if f k = 0 then firstF f n (k + 1) else f k

theorem firstF_hit (f : Nat → Int) : ∀ (n i k : Nat), k < n → (∀ j, j < k → f (i + j) = 0) → ¬ f (i + k) = 0 → firstF f n i = f (i + k)
  | 0, _, _, h, _, _ => absurd h (Nat.not_lt_zero _)
  | n + 1, i, 0, _, _, hk => by unfold firstF; rw [if_neg (by simpa using hk)]; rfl
  | n + 1, i, k + 1, h, hz, hk => by
    have h0 : f i = 0 := by simpa using hz 0 (by omega)
    unfold firstF
    rw [if_pos h0, firstF_hit f n (i + 1) k (by omega) (fun j hj => by have := hz (j + 1) (by omega); rw [show i + 1 + j = i + (j + 1) by omega]; exact this) (by rw [show i + 1 + k = i + (k + 1) by omega]; exact hk)]
    rw [show i + 1 + k = i + (k + 1) by omega]

theorem firstF_none (f : Nat → Int) : ∀ (n i : Nat), (∀ j, j < n → f (i + j) = 0) → firstF f n i = 0
  | 0, _, _ => rfl
  | n + 1, i, hz => by
    have h0 : f i = 0 := by simpa using hz 0 (by omega)
    unfold firstF
    rw [if_pos h0]
    exact firstF_none f n (i + 1) (fun j hj => by have := hz (j + 1) (by omega); rw [show i + 1 + j = i + (j + 1) by omega]; exact this)

end Go.Proofs.Ytlaeomnacgjcgaa

namespace Go.Proofs.Ytlaeomnacgjcgaa
open Go.RowKit

def voidB (s : ByteArray) : Bool := (s.toList == [98, 114]) || (s.toList == [105, 109, 103])

theorem l6Void_any (s : ByteArray) (w : World) :
    Calls Try.prog 36 #[.string s] w fun e w' => e = .returned (.bool (voidB s)) ∧ w' = w := by
  cases h1 : (s.toList == [98, 114])
  · cases h2 : (s.toList == [105, 109, 103])
    all_goals go_enter Try.func36, Try.ntmps36
    all_goals go_wp2
    all_goals go_ret
    all_goals exact ⟨by simp [voidB, h1, h2], rfl⟩
  · go_enter Try.func36, Try.ntmps36
    go_wp2
    go_ret
    exact ⟨by simp [voidB, h1], rfl⟩

theorem implVoid_any (s : ByteArray) (w : World) :
    Calls Try.prog 19 #[.string s] w fun e w' => e = .returned (.bool (voidB s)) ∧ w' = w := by
  cases h1 : (s.toList == [98, 114])
  · cases h2 : (s.toList == [105, 109, 103])
    all_goals go_enter Try.func19, Try.ntmps19
    all_goals go_wp2
    all_goals go_ret
    all_goals exact ⟨by simp [voidB, h1, h2], rfl⟩
  · go_enter Try.func19, Try.ntmps19
    go_wp2
    go_ret
    exact ⟨by simp [voidB, h1], rfl⟩

theorem specVoid_any (s : ByteArray) (w : World) :
    Calls Try.prog 20 #[.string s] w fun e w' => e = .returned (.bool (voidB s)) ∧ w' = w := by
  have K := Hid.mk' (l6Void_any s w)
  go_enter Try.func20, Try.ntmps20
  go_wp2_with fail
  refine K.out.mono ?_
  rintro e w1 ⟨rfl, rfl⟩
  go_wp2
  go_ret
  exact ⟨rfl, rfl⟩

end Go.Proofs.Ytlaeomnacgjcgaa

namespace Go.Proofs.Ytlaeomnacgjcgaa
open Go.RowKit

structure ND where
  up : Int
  tg : ByteArray
  at_ : List AT
  tx : List Int

def ndK (l : List ND) (k : Nat) : ND := l.getD k ⟨0, ⟨#[]⟩, [], []⟩

def NsAt (w : World) (a : Option Addr) (l : List ND) : Prop :=
  l = [] ∨ ∃ b o, a = some ⟨b, o, none⟩ ∧ b < w.heap.size ∧ ∀ k, k < l.length → w.cell? ⟨b, o + k * 4, none⟩ = some (.int .i64 (ndK l k).up) ∧ w.cell? ⟨b, o + k * 4 + 1, none⟩ = some (.string (ndK l k).tg) ∧ (∃ p c, w.cell? ⟨b, o + k * 4 + 2, none⟩ = some (.slice p (ndK l k).at_.length c) ∧ (ndK l k).at_.length ≤ c ∧ AAt w p (ndK l k).at_) ∧ (∃ p c, w.cell? ⟨b, o + k * 4 + 3, none⟩ = some (.slice p (ndK l k).tx.length c) ∧ BAt w p (ndK l k).tx)

theorem NsAt.below {w w' : World} {a : Option Addr} {l : List ND} (h : NsAt w a l) (hb : Below w.heap.size w w') : NsAt w' a l := by
  rcases h with h | ⟨b, o, e, hs, hc⟩
  · exact .inl h
  · refine .inr ⟨b, o, e, Nat.lt_of_lt_of_le hs hb.size, fun k hk => ?_⟩
    obtain ⟨h1, h2, ⟨p, c, h3, h4, h5⟩, ⟨p', c', h6, h7⟩⟩ := hc k hk
    exact ⟨(hb.cell hs).trans h1, (hb.cell hs).trans h2, ⟨p, c, (hb.cell hs).trans h3, h4, h5.below hb⟩, ⟨p', c', (hb.cell hs).trans h6, h7.below hb⟩⟩

def nsz (t : ND) : Nat := t.tg.size + t.at_.length + asz t.at_ + t.tx.length
def nssz : List ND → Nat
  | [] => 0
  | x :: r => nsz x + nssz r

theorem nssz_take (l : List ND) : ∀ k, k < l.length → nssz (l.take (k + 1)) = nssz (l.take k) + nsz (ndK l k) := by
  induction l with
  | nil => intro k h; exact absurd h (Nat.not_lt_zero _)
  | cons x r ih =>
    intro k hk
    cases k with
    | zero => simp [nssz, ndK]
    | succ k =>
      have := ih k (by simpa using hk)
      simp only [List.take_succ_cons, nssz]
      rw [this]
      have e : ndK (x :: r) (k + 1) = ndK r k := by simp [ndK]
      rw [e]; omega

theorem nssz_le (l : List ND) (k : Nat) : nssz (l.take k) ≤ nssz l := by
  induction l generalizing k with
  | nil => simp [nssz]
  | cons x r ih =>
    cases k with
    | zero => simp [nssz]
    | succ k => simp only [List.take_succ_cons, nssz]; have := ih k; omega

theorem nssz_at {l : List ND} {k : Nat} (h : k < l.length) : nsz (ndK l k) ≤ nssz l := by
  have h1 := nssz_take l k h
  have h2 := nssz_le l (k + 1)
  omega

end Go.Proofs.Ytlaeomnacgjcgaa

namespace Go.Proofs.Ytlaeomnacgjcgaa
open Go.RowKit

theorem Try.info44 : (Try.prog.info? 44).map (fun i => (i.zero, i.size, i.bytes)) = some (some (.agg #[.int .i64 0, .string ⟨#[]⟩, .slice none 0 0, .slice none 0 0]), 4, 72) := by kernel_rfl

theorem make_nodes {P : Program} (t e : TypeId) (ht : P.underlying t = some (.slice e)) (hinfo : (P.info? e).map (fun i => (i.zero, i.size, i.bytes)) = some (some (.agg #[.int .i64 0, .string ⟨#[]⟩, .slice none 0 0, .slice none 0 0]), 4, 72))
    (n : Nat) (hn : (n : Int) ≤ 1048576) (w : World) :
    (Instr.makeSlice t (.int .i64 (n : Int)) (.int .i64 (n : Int))).run P w = .ok (.slice (some ⟨w.heap.size, 0, none⟩) n n) (w.alloc (.cells (madeCells #[.int .i64 0, .string ⟨#[]⟩, .slice none 0 0, .slice none 0 0] (n * 4)) e)) := by
  obtain ⟨i, hi, hzz⟩ := Option.map_eq_some_iff.1 hinfo
  simp only [Prod.mk.injEq] at hzz
  obtain ⟨hz, hs, hb⟩ := hzz
  have hr := run_make (P := P) w t e i _ ht hi hz .i64 .i64 n n (by omega) (Int.le_refl _) (by rw [hb]; omega) (by omega)
  simp only [Int.toNat_natCast, hs] at hr
  exact hr

end Go.Proofs.Ytlaeomnacgjcgaa

namespace Go.Proofs.Ytlaeomnacgjcgaa
open Go.RowKit

end Go.Proofs.Ytlaeomnacgjcgaa

namespace Go.Proofs.Ytlaeomnacgjcgaa
open Go.RowKit

end Go.Proofs.Ytlaeomnacgjcgaa
