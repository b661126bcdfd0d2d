/- Walks: small callees of the law on references. -/
import Derived.Test.YthckoaddajpgcaaDoorXm
import Derived.Laws.StructEq
namespace Go.Proofs.YthckoaddajpgcaaDoor
open Go.RowKit
set_option linter.unusedVariables false

theorem lwBig_any (a : Option Addr) (c n : Nat) (w : World) :
    Calls Tryd.prog 4 #[.slice a n c] w fun e w' => e = .returned (.bool (decide ((1048576 : Int) < (n : Int)))) ∧ w' = w := by
  go_enter Tryd.func4, Tryd.ntmps4
  go_wp2
  go_ret
  exact ⟨rfl, rfl⟩

theorem lwBytes_same (a a' : Option Addr) (c c' : Nat) (D : List Int) (w : World) (h : BAt w a D) (h' : BAt w a' D) (hu : ∀ x ∈ D, 0 ≤ x ∧ x ≤ 255) :
    Calls Tryd.prog 14 #[.slice a D.length c, .slice a' D.length c'] w fun e w' => e = .returned (.bool true) ∧ w' = w := by
  have c1 := conv_bytes w a c D h hu
  have c2 := conv_bytes w a' c' D h' hu
  go_enter Tryd.func14, Tryd.ntmps14
  go_wp2
  go_ret
  exact ⟨by simp, rfl⟩

theorem neq31 (a b c : Int) (w : World) : (binOp .neq 31 (.agg #[.int .i64 a, .int .i64 b, .int .i64 c]) (.agg #[.int .i64 a, .int .i64 b, .int .i64 c])).run Tryd.prog w = .ok (.bool false) w := by
  go_simp

theorem field36_0 (c : Int) (a : Option Addr) (n d : Nat) (w : World) : (Instr.field 36 (.agg #[.int .i64 c, .slice a n d]) 0).run Tryd.prog w = .ok (.int .i64 c) w := by kernel_rfl
theorem field36_1 (c : Int) (a : Option Addr) (n d : Nat) (w : World) : (Instr.field 36 (.agg #[.int .i64 c, .slice a n d]) 1).run Tryd.prog w = .ok (.slice a n d) w := by kernel_rfl
theorem field26_0 (c : Int) (s : ByteArray) (w : World) : (Instr.field 26 (.agg #[.int .i64 c, .string s]) 0).run Tryd.prog w = .ok (.int .i64 c) w := by kernel_rfl
theorem field26_1 (c : Int) (s : ByteArray) (w : World) : (Instr.field 26 (.agg #[.int .i64 c, .string s]) 1).run Tryd.prog w = .ok (.string s) w := by kernel_rfl

theorem dec_u8 : ∀ (f : Nat) (L : List UInt8), ∀ x ∈ dec f L, 0 ≤ x ∧ x ≤ 255
  | 0, _, x, hx => by simp [dec] at hx
  | f + 1, [], x, hx => by simp [dec] at hx
  | f + 1, c :: r, x, hx => by
    rw [dec] at hx
    split at hx
    · rcases List.mem_cons.1 hx with rfl | hx
      · have := c.toNat_lt; omega
      · exact dec_u8 f _ x hx
    · rcases List.mem_cons.1 hx with rfl | hx
      · have := refOf_byte (c :: r); omega
      · exact dec_u8 f _ x hx

theorem decV_u8 (L : List UInt8) : ∀ x ∈ decV L, 0 ≤ x ∧ x ≤ 255 := by
  unfold decV
  split
  · intro x hx; simp at hx
  · exact dec_u8 _ _

/-- The i-th of three cells, and a box of three. -/
theorem row3c {w : World} {g : Nat} {ty : TypeId} {x y z : Value} (h : w.rowIs g ty 3 (r3 x y z)) : w.cell? ⟨g, 0, none⟩ = some x ∧ w.cell? ⟨g, 1, none⟩ = some y ∧ w.cell? ⟨g, 2, none⟩ = some z ∧ g < w.heap.size :=
  ⟨h.cell (by omega), h.cell (by omega), h.cell (by omega), h.lt⟩

end Go.Proofs.YthckoaddajpgcaaDoor
