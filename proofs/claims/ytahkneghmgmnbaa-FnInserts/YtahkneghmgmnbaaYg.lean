/- A drawn table in its box; the lesser and the greater of two. -/
import Derived.Test.YtahkneghmgmnbaaYf
namespace Go.Proofs.Ytahkneghmgmnbaa
open Go.RowKit
set_option linter.unusedVariables false

/-- A table in its box at block g, beside the source; the box of the answer at block r. -/
structure DI (w : World) (b g r : Nat) (l : List Int) (k : Nat) (s1 s2 s3 : Value) (t : TB) (wr : World) : Prop where
  wr_ : w.heap.size ≤ r
  rb : r < b
  bg : b < g
  box : wr.rowIs g 26 3 (r3 s1 s2 s3)
  res : wr.rowIs r 26 3 (r3 (.slice none 0 0) (.slice none 0 0) (.slice none 0 0))
  ot : OT (b + 1) wr.heap.size wr s1 s2 s3 t
  src : Src b l k wr
  bel : Below w.heap.size w wr

theorem DI.below {w wr w' : World} {b g r k : Nat} {l : List Int} {s1 s2 s3 : Value} {t : TB} (h : DI w b g r l k s1 s2 s3 t wr) (hb : Below wr.heap.size wr w') : DI w b g r l k s1 s2 s3 t w' :=
  ⟨h.wr_, h.rb, h.bg, rowB h.box hb, rowB h.res hb, (h.ot.below hb).mono (Nat.le_refl _) hb.size, h.src.below hb, h.bel.trans (hb.mono h.bel.size)⟩

theorem DI.next {w wr w' : World} {b g r k k' : Nat} {l : List Int} {s1 s2 s3 : Value} {t : TB} (h : DI w b g r l k s1 s2 s3 t wr) (hS : Src b l k' w') (hK : KeptIn b (b + 1) wr w') : DI w b g r l k' s1 s2 s3 t w' :=
  have h1 := h.wr_
  have h2 := h.rb
  ⟨h.wr_, h.rb, h.bg, rowK h.box hK (.inr h.bg), rowK h.res hK (.inl h.rb), (h.ot.kept hK (.inr (Nat.le_refl _))).mono (Nat.le_refl _) hK.size, hS, h.bel.trans (hK.below (by omega) h.bel.size)⟩

theorem l1Min_any (x y : Int) (w : World) : Calls Try.prog 33 #[.int .i64 x, .int .i64 y] w fun e w' => e = .returned (.int .i64 (if x < y then x else y)) ∧ w' = w := by
  by_cases h : x < y
  · rw [if_pos h]
    go_enter Try.func33, Try.ntmps33
    go_wp2
    go_ret
    exact ⟨rfl, rfl⟩
  · rw [if_neg h]
    go_enter Try.func33, Try.ntmps33
    go_wp2
    go_ret
    exact ⟨rfl, rfl⟩

theorem l1Max_any (x y : Int) (w : World) : Calls Try.prog 32 #[.int .i64 x, .int .i64 y] w fun e w' => e = .returned (.int .i64 (if y < x then x else y)) ∧ w' = w := by
  by_cases h : y < x
  · rw [if_pos h]
    go_enter Try.func32, Try.ntmps32
    go_wp2
    go_ret
    exact ⟨rfl, rfl⟩
  · rw [if_neg h]
    go_enter Try.func32, Try.ntmps32
    go_wp2
    go_ret
    exact ⟨rfl, rfl⟩

end Go.Proofs.Ytahkneghmgmnbaa
