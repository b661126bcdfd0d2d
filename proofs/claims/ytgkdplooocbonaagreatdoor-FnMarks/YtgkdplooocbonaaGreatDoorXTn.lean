/- Lists of tokens that lie in memory; their sizes; they are copied, and told to be the same. -/
import Derived.Test.YtgkdplooocbonaaGreatDoorXV4
namespace Go.Proofs.YtgkdplooocbonaaGreatDoor
open Go.RowKit
set_option linter.unusedVariables false
set_option linter.unusedSimpArgs false

/-- The k-th of tokens. -/
def tkK (l : List TK) (k : Nat) : TK := l.getD k ⟨0, 0, ⟨#[]⟩, [], false⟩

/-- Tokens lie at an address. -/
def TsAt (w : World) (a : Option Addr) (l : List TK) : Prop :=
  l = [] ∨ ∃ b o, a = some ⟨b, o, none⟩ ∧ b < w.heap.size ∧ ∀ k, k < l.length → w.cell? ⟨b, o + k * 5, none⟩ = some (.int .i64 (tkK l k).kd) ∧ w.cell? ⟨b, o + k * 5 + 1, none⟩ = some (.int .i64 (tkK l k).by_) ∧ w.cell? ⟨b, o + k * 5 + 2, none⟩ = some (.string (tkK l k).nm) ∧ (∃ p c, w.cell? ⟨b, o + k * 5 + 3, none⟩ = some (.slice p (tkK l k).at_.length c) ∧ AAt w p (tkK l k).at_) ∧ w.cell? ⟨b, o + k * 5 + 4, none⟩ = some (.bool (tkK l k).sh)

theorem TsAt.below {w w' : World} {a : Option Addr} {l : List TK} (h : TsAt w a l) (hb : Below w.heap.size w w') : TsAt w' a l := by
  rcases h with h | ⟨b, o, e, hs, hc⟩
  · exact .inl h
  · refine .inr ⟨b, o, e, Nat.lt_of_lt_of_le hs hb.size, fun k hk => ?_⟩
    obtain ⟨h1, h2, h3, ⟨p, c, h4, h5⟩, h6⟩ := hc k hk
    exact ⟨(hb.cell hs).trans h1, (hb.cell hs).trans h2, (hb.cell hs).trans h3, ⟨p, c, (hb.cell hs).trans h4, h5.below hb⟩, (hb.cell hs).trans h6⟩

/-- The size of a token, and of tokens. -/
def tsz (t : TK) : Nat := t.nm.size + t.at_.length + asz t.at_
def tssz : List TK → Nat
  | [] => 0
  | x :: r => tsz x + tssz r

theorem tssz_take (l : List TK) : ∀ k, k < l.length → tssz (l.take (k + 1)) = tssz (l.take k) + tsz (tkK l k) := by
  induction l with
  | nil => intro k h; exact absurd h (Nat.not_lt_zero _)
  | cons x r ih =>
    intro k hk
    cases k with
    | zero => simp [tssz, tkK]
    | succ k =>
      have := ih k (by simpa using hk)
      simp only [List.take_succ_cons, tssz]
      rw [this]
      have e : tkK (x :: r) (k + 1) = tkK r k := by simp [tkK]
      rw [e]; omega

theorem tssz_le (l : List TK) (k : Nat) : tssz (l.take k) ≤ tssz l := by
  induction l generalizing k with
  | nil => simp [tssz]
  | cons x r ih =>
    cases k with
    | zero => simp [tssz]
    | succ k => simp only [List.take_succ_cons, tssz]; have := ih k; omega

/-- Nothing in them is wider than a machine's. -/
def WideT (l : List TK) : Prop := ∀ k, k < l.length → Wide (tkK l k).at_ ∧ ((tkK l k).nm.size : Int) ≤ 9223372036854775807 ∧ ((tkK l k).at_.length : Int) ≤ 9223372036854775807

end Go.Proofs.YtgkdplooocbonaaGreatDoor
