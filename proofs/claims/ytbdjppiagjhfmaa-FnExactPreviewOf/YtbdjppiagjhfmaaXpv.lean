/- ApplyPatches of bytes of one's own: both sides; lists of patches, done one behind the other. -/
import Derived.Test.YtbdjppiagjhfmaaXpu
namespace Go.Proofs.Ytbdjppiagjhfmaa
open Go.RowKit
set_option linter.unusedVariables false
set_option linter.unusedSimpArgs false

theorem specAPO_any (v : Value) (d : List Int) (a : Option Addr) (m : Nat) (l : List XK) (w : World) (hv : OB w v d) (ha : XsAt w a l) (hw : WideX l) (hs : d.length ≤ 1048576) :
    Calls Try.prog 37 #[v, .slice a l.length m] w fun e w' => ∃ v, e = .returned (.agg #[.int .i64 (apC d l), v]) ∧ OB w' v (apB d l) ∧ In w.heap.size w'.heap.size v ∧ Below w.heap.size w w' := by
  rcases hv with ⟨rfl, rfl⟩ | ⟨g, cap, cn, f, rfl, hc, hr, hcn, hf⟩
  · exact specAPN_any a m l w ha hw
  · exact specAP_any g 0 cap d a m l w ⟨hr.lt, fun k hk => by rw [Nat.zero_add]; exact (hr.cell (by omega)).trans (congrArg some (hf k hk))⟩ hc ha hw hs

theorem implAPO_any (v : Value) (d : List Int) (a : Option Addr) (m : Nat) (l : List XK) (w : World) (hv : OB w v d) (ha : XsAt w a l) (hw : WideX l) (hs : d.length ≤ 1048576) :
    Calls Try.prog 40 #[v, .slice a l.length m] w fun e w' => ∃ v, e = .returned (.agg #[.int .i64 (apC d l), v]) ∧ OB w' v (apB d l) ∧ In w.heap.size w'.heap.size v ∧ Below w.heap.size w w' := by
  rcases hv with ⟨rfl, rfl⟩ | ⟨g, cap, cn, f, rfl, hc, hr, hcn, hf⟩
  · exact implAPN_any a m l w ha hw
  · exact implAP_any g 0 cap d a m l w ⟨hr.lt, fun k hk => by rw [Nat.zero_add]; exact (hr.cell (by omega)).trans (congrArg some (hf k hk))⟩ hc ha hw hs

/-- The k-th of lists of patches. -/
def xxK (L : List (List XK)) (k : Nat) : List XK := L.getD k []

/-- Lists of patches lie at an address. -/
def XssAt (w : World) (a : Option Addr) (L : List (List XK)) : Prop :=
  L = [] ∨ ∃ b o, a = some ⟨b, o, none⟩ ∧ b < w.heap.size ∧ ∀ k, k < L.length → ∃ p c, w.cell? ⟨b, o + k, none⟩ = some (.slice p (xxK L k).length c) ∧ XsAt w p (xxK L k)

theorem XssAt.below {w w' : World} {a : Option Addr} {L : List (List XK)} (h : XssAt w a L) (hb : Below w.heap.size w w') : XssAt w' a L := by
  rcases h with h | ⟨b, o, e, hs, hc⟩
  · exact .inl h
  · refine .inr ⟨b, o, e, Nat.lt_of_lt_of_le hs hb.size, fun k hk => ?_⟩
    obtain ⟨p, c, h1, h2⟩ := hc k hk
    exact ⟨p, c, (hb.cell hs).trans h1, h2.below hb⟩

/-- How much lists of patches hold. -/
def xxsz : List (List XK) → Nat
  | [] => 0
  | x :: r => x.length + xsz x + xxsz r

theorem xxsz_take (L : List (List XK)) : ∀ k, k < L.length → xxsz (L.take (k + 1)) = xxsz (L.take k) + ((xxK L k).length + xsz (xxK L k)) := by
  induction L with
  | nil => intro k h; exact absurd h (Nat.not_lt_zero _)
  | cons x r ih =>
    intro k hk
    cases k with
    | zero => simp [xxsz, xxK]
    | succ k =>
      have := ih k (by simpa using hk)
      simp only [List.take_succ_cons, xxsz]
      rw [this]
      have e : xxK (x :: r) (k + 1) = xxK r k := by simp [xxK]
      rw [e]; omega

theorem xxsz_le (L : List (List XK)) (k : Nat) : xxsz (L.take k) ≤ xxsz L := by
  induction L generalizing k with
  | nil => simp [xxsz]
  | cons x r ih =>
    cases k with
    | zero => simp [xxsz]
    | succ k => simp only [List.take_succ_cons, xxsz]; have := ih k; omega

def WideXX (L : List (List XK)) : Prop := ∀ k, k < L.length → WideX (xxK L k) ∧ ((xxK L k).length : Int) ≤ 9223372036854775807

/-- Patches done, list by list: the code, and what there is then. -/
def pvR (d : List Int) : List (List XK) → Int × List Int
  | [] => (0, d)
  | p :: r => if apC d p = 0 then pvR (apB d p) r else (apC d p, [])

/-- What PreviewOf answers. -/
def pvA (d : List Int) (L : List (List XK)) : Int × List Int := if 20 < L.length then (2, []) else pvR d L

theorem drop_xx {L : List (List XK)} {k : Nat} (hk : k < L.length) : L.drop k = xxK L k :: L.drop (k + 1) := by
  rw [List.drop_eq_getElem_cons hk]
  simp [xxK, hk]

theorem pvR_step {d : List Int} {L : List (List XK)} {k : Nat} (hk : k < L.length) : pvR d (L.drop k) = if apC d (xxK L k) = 0 then pvR (apB d (xxK L k)) (L.drop (k + 1)) else (apC d (xxK L k), []) := by
  rw [drop_xx hk]
  rfl

theorem pvR_end (d : List Int) (L : List (List XK)) : pvR d (L.drop L.length) = (0, d) := by
  rw [List.drop_length]
  rfl

theorem pvR_len (L : List (List XK)) : ∀ d : List Int, (pvR d L).2.length ≤ 2000 ∨ (pvR d L).2.length ≤ d.length := by
  induction L with
  | nil => intro d; exact .inr (Nat.le_refl _)
  | cons p r ih =>
    intro d
    unfold pvR
    split
    · have h1 := ih (apB d p)
      have h2 := apB_len d p
      omega
    · exact .inl (by simp)

theorem pvA_len (d : List Int) (L : List (List XK)) (h : (d.length : Int) ≤ 1048576) : ((pvA d L).2.length : Int) ≤ 1048576 := by
  unfold pvA
  split
  · simp
  · have := pvR_len L d
    omega

end Go.Proofs.Ytbdjppiagjhfmaa
