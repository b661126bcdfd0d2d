/- Lists of texts that lie in memory: measured, copied, told to be the same; policies. -/
import Derived.Test.YtaihlcfpkabonaaDoorWb
import Derived.Test.YtaihlcfpkabonaaDoorOwn
namespace Go.Proofs.YtaihlcfpkabonaaDoor
open Go.RowKit
set_option linter.unusedVariables false
set_option linter.unusedSimpArgs false

/-- The k-th of texts. -/
def sK (l : List ByteArray) (k : Nat) : ByteArray := l.getD k ⟨#[]⟩

/-- The k-th of texts, as a value. -/
def sv (l : List ByteArray) (k : Nat) : Value := .string (sK l k)

/-- Texts lie at an address. -/
def StAt (w : World) (a : Option Addr) (l : List ByteArray) : Prop :=
  l = [] ∨ ∃ b o, a = some ⟨b, o, none⟩ ∧ b < w.heap.size ∧ ∀ k, k < l.length → w.cell? ⟨b, o + k, none⟩ = some (.string (sK l k))

theorem StAt.below {w w' : World} {a : Option Addr} {l : List ByteArray} (h : StAt w a l) (hb : Below w.heap.size w w') : StAt w' a l := by
  rcases h with h | ⟨b, o, e, hs, hc⟩
  · exact .inl h
  · exact .inr ⟨b, o, e, Nat.lt_of_lt_of_le hs hb.size, fun k hk => (hb.cell hs).trans (hc k hk)⟩

theorem StAt.of_row {w : World} {b : Nat} {l : List ByteArray} (h : w.rowIs b 9 l.length (sv l)) : StAt w (some ⟨b, 0, none⟩) l :=
  .inr ⟨b, 0, rfl, h.lt, fun k hk => by rw [Nat.zero_add]; exact h.cell hk⟩

/-- The bytes of texts. -/
def ssz : List ByteArray → Nat
  | [] => 0
  | x :: r => x.size + ssz r

theorem ssz_take (l : List ByteArray) : ∀ k, k < l.length → ssz (l.take (k + 1)) = ssz (l.take k) + (sK l k).size := by
  induction l with
  | nil => intro k h; exact absurd h (Nat.not_lt_zero _)
  | cons x r ih =>
    intro k hk
    cases k with
    | zero => simp [ssz, sK]
    | succ k =>
      have := ih k (by simpa using hk)
      simp only [List.take_succ_cons, ssz]
      rw [this]
      have e : sK (x :: r) (k + 1) = sK r k := by simp [sK]
      rw [e]; omega

theorem ssz_le (l : List ByteArray) (k : Nat) : ssz (l.take k) ≤ ssz l := by
  induction l generalizing k with
  | nil => simp [ssz]
  | cons x r ih =>
    cases k with
    | zero => simp [ssz]
    | succ k => simp only [List.take_succ_cons, ssz]; have := ih k; omega

theorem sK_le (l : List ByteArray) (k : Nat) (hk : k < l.length) : (sK l k).size ≤ ssz l := by
  have := ssz_take l k hk
  have := ssz_le l (k + 1)
  omega

/-- The widest that a text can be. -/
def WideS (l : List ByteArray) : Prop := ∀ k, k < l.length → ((sK l k).size : Int) ≤ 9223372036854775807

theorem Tryd.info9 : (Tryd.prog.info? 9).map (fun i => (i.zero, i.size, i.bytes)) = some (some (.string ⟨#[]⟩), 1, 16) := by kernel_rfl

/-- A policy: three lists of words. -/
structure PO where
  tg : List ByteArray
  at_ : List ByteArray
  sc : List ByteArray

def psz (p : PO) : Nat := p.tg.length + ssz p.tg + p.at_.length + ssz p.at_ + p.sc.length + ssz p.sc

/-- A policy lies in memory. -/
def POAt (w : World) (a b c : Option Addr) (p : PO) : Prop := StAt w a p.tg ∧ StAt w b p.at_ ∧ StAt w c p.sc

theorem POAt.below {w w' : World} {a b c : Option Addr} {p : PO} (h : POAt w a b c p) (hb : Below w.heap.size w w') : POAt w' a b c p := ⟨h.1.below hb, h.2.1.below hb, h.2.2.below hb⟩

def WideP (p : PO) : Prop := WideS p.tg ∧ WideS p.at_ ∧ WideS p.sc ∧ (p.tg.length : Int) ≤ 9223372036854775807 ∧ (p.at_.length : Int) ≤ 9223372036854775807 ∧ (p.sc.length : Int) ≤ 9223372036854775807

theorem cellsP {w : World} {g : Nat} {ty : TypeId} {x y z : Value} (h : w.rowIs g ty 3 (r3 x y z)) : w.cell? ⟨g, 0, none⟩ = some x ∧ w.cell? ⟨g, 1, none⟩ = some y ∧ w.cell? ⟨g, 2, none⟩ = some z ∧ g < w.heap.size :=
  ⟨h.cell (by omega), h.cell (by omega), h.cell (by omega), h.lt⟩

/-- A policy of one's own: three rows. -/
def PX (lo g1 g2 g3 : Nat) (p : PO) (w : World) : Prop := lo ≤ g1 ∧ g1 < g2 ∧ g2 < g3 ∧ w.rowIs g1 9 p.tg.length (sv p.tg) ∧ w.rowIs g2 9 p.at_.length (sv p.at_) ∧ w.rowIs g3 9 p.sc.length (sv p.sc)

theorem PX.below {lo g1 g2 g3 : Nat} {p : PO} {w w' : World} (h : PX lo g1 g2 g3 p w) (hb : Below w.heap.size w w') : PX lo g1 g2 g3 p w' :=
  ⟨h.1, h.2.1, h.2.2.1, rowB h.2.2.2.1 hb, rowB h.2.2.2.2.1 hb, rowB h.2.2.2.2.2 hb⟩

theorem PX.at {lo g1 g2 g3 : Nat} {p : PO} {w : World} (h : PX lo g1 g2 g3 p w) : POAt w (some ⟨g1, 0, none⟩) (some ⟨g2, 0, none⟩) (some ⟨g3, 0, none⟩) p :=
  ⟨.of_row h.2.2.2.1, .of_row h.2.2.2.2.1, .of_row h.2.2.2.2.2⟩

end Go.Proofs.YtaihlcfpkabonaaDoor
