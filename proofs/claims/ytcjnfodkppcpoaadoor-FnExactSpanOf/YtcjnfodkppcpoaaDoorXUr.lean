/- The size of what stands ahead, one node more, in whatever order its operands come. -/
import Derived.Test.YtcjnfodkppcpoaaDoorXUq
import Derived.Test.YtcjnfodkppcpoaaDoorXUk
namespace Go.Proofs.YtcjnfodkppcpoaaDoor
open Go.RowKit Go.Maps Go.Shelf
set_option linter.unusedVariables false
set_option linter.unusedSimpArgs false
attribute [local go_sem] Oper.semAt_some

set_option maxRecDepth 100000 in
set_option maxHeartbeats 12800000 in
theorem region6 (Z : World) (sb nbx nb no n cc k S : Nat) (sd : Int) (T : List UInt8) (t : ND) (p p' : Option Addr) (pc pc' l' m' : Nat) (ds : List Deferred) (hS : S ≤ 200000) (hT : T.length ≤ 1440)
    (s0 : Z.cell? ⟨sb, 0, none⟩ = some (.int .i64 (S : Int))) (sf : Z.frozen? ⟨sb, 0, none⟩ = false) (sl : sb < Z.heap.size) (n0 : Z.cell? ⟨nbx, 0, none⟩ = some (.slice (some ⟨nb, no, none⟩) n cc)) (hk : (k : Int) < (n : Int))
    (d0 : Z.cell? ⟨nb, no + k * 4, none⟩ = some (.int .i64 t.up)) (d1 : Z.cell? ⟨nb, no + k * 4 + 1, none⟩ = some (.string t.tg)) (d2 : Z.cell? ⟨nb, no + k * 4 + 2, none⟩ = some (.slice p t.at_.length pc)) (d3 : Z.cell? ⟨nb, no + k * 4 + 3, none⟩ = some (.slice p' t.tx.length pc'))
    (KE : Hid (∀ w', Below Z.heap.size Z w' → Calls Tryd.prog 53 #[.agg #[.int .i64 t.up, .string t.tg, .slice p t.at_.length pc, .slice p' t.tx.length pc'], .int .i64 sd] w' fun e w'' => e = .returned (.agg #[.int .i64 0, .string ⟨T.toArray⟩]) ∧ Below w'.heap.size w' w''))
    (x0 x1 x2 x3 x5 x6 x10 x11 x12 x13 x14 x15 x16 x17 x18 x19 x20 x21 x22 x23 x24 x25 x26 x27 x28 x29 : Value) :
    (Code.region 6 #[{ dst := some 19, op := Op.load 3 (Operand.tmp 7), type := 3, pos := "l10_write.go:98", after := #[], guard := none },
  { dst := some 20, op := Op.load 28 (Operand.tmp 4), type := 28, pos := "l10_write.go:98", after := #[], guard := none },
  { dst := some 21, op := Op.move (Operand.tmp 8), type := 2, pos := "l10_write.go:98", after := #[], guard := none },
  { dst := some 22, op := Op.indexAddr 28 (Operand.tmp 20) (Operand.tmp 21), type := 0, pos := "l10_write.go:98", after := #[{ on := 1, ground := Ground.data }, { on := 2, ground := Ground.data }], guard := none },
  { dst := some 23, op := Op.load 49 (Operand.tmp 22), type := 49, pos := "l10_write.go:98", after := #[{ on := 3, ground := Ground.data }], guard := none },
  { dst := some 24, op := Op.move (Operand.tmp 9), type := 90, pos := "l10_write.go:98", after := #[], guard := none },
  { dst := some 25, op := Op.call { callee := Callee.value (Operand.func 53), args := #[Operand.tmp 23, Operand.tmp 24], argTypes := #[49, 90] }, type := 85, pos := "l10_write.go:98", after := #[{ on := 4, ground := Ground.data }, { on := 5, ground := Ground.data }], guard := none },
  { dst := some 26, op := Op.field 85 (Operand.tmp 25) 1, type := 9, pos := "l10_write.go:98", after := #[{ on := 6, ground := Ground.data }], guard := none },
  { dst := some 27, op := Op.call { callee := Callee.builtin Builtin.len, args := #[Operand.tmp 26], argTypes := #[9] }, type := 3, pos := "l10_write.go:98", after := #[{ on := 7, ground := Ground.data }], guard := none },
  { dst := some 28, op := Op.binOp BinOp.add 3 (Operand.tmp 19) (Operand.tmp 27) 3, type := 3, pos := "l10_write.go:98", after := #[{ on := 0, ground := Ground.data }, { on := 8, ground := Ground.data }], guard := none },
  { dst := none, op := Op.store 3 (Operand.tmp 7) (Operand.tmp 28), type := 0, pos := "l10_write.go:98", after := #[{ on := 9, ground := Ground.data }, { on := 6, ground := Ground.chain }, { on := 0, ground := Ground.phase }, { on := 1, ground := Ground.phase }, { on := 2, ground := Ground.phase }, { on := 3, ground := Ground.phase }, { on := 4, ground := Ground.phase }, { on := 5, ground := Ground.phase }, { on := 6, ground := Ground.phase }, { on := 7, ground := Ground.phase }, { on := 8, ground := Ground.phase }, { on := 9, ground := Ground.phase }], guard := none }] true).wpIn (Fence.wide.inRound l') m' Tryd.prog (fun e (a' : Act) X => e = Exit.normal ∧ ∃ w7, Below Z.heap.size Z w7 ∧ X = w7.setCell ⟨sb, 0, none⟩ (.int .i64 (IntKind.i64.wrap ((S : Int) + (T.length : Int))))) { tmps := #[x0, x1, x2, x3, Value.pointer (some ⟨nbx, 0, none⟩), x5, x6, Value.pointer (some ⟨sb, 0, none⟩), Value.int .i64 (k : Int), Value.int .i64 sd, x10, x11, x12, x13, x14, x15, x16, x17, x18, x19, x20, x21, x22, x23, x24, x25, x26, x27, x28, x29], defers := ds } Z := by
  have hmo : Tryd.prog.follows .mixedOrders = true := by kernel_rfl
  have hts : ((⟨T.toArray⟩ : ByteArray).size : Int) = (T.length : Int) := by simp [ByteArray.size]
  have c0 : Z.drew.cell? ⟨sb, 0, none⟩ = some (.int .i64 (S : Int)) := s0
  have e0 : Z.drew.cell? ⟨nbx, 0, none⟩ = some (.slice (some ⟨nb, no, none⟩) n cc) := n0
  have e1 : Z.drew.cell? ⟨nb, no + k * 4, none⟩ = some (.int .i64 t.up) := d0
  have e2 : Z.drew.cell? ⟨nb, no + k * 4 + 1, none⟩ = some (.string t.tg) := d1
  have e3 : Z.drew.cell? ⟨nb, no + k * 4 + 2, none⟩ = some (.slice p t.at_.length pc) := d2
  have e4 : Z.drew.cell? ⟨nb, no + k * 4 + 3, none⟩ = some (.slice p' t.tx.length pc') := d3
  refine wpIn_region_any hmo ?_
  change wpAnyIn _ _ _ _ _ _ _ _ _ (World.drew _)
  obtain ⟨OPS, hO⟩ : ∃ OPS : Array Oper, OPS = #[{ dst := some 19, op := Op.load 3 (Operand.tmp 7), type := 3, pos := "l10_write.go:98", after := #[], guard := none },
  { dst := some 20, op := Op.load 28 (Operand.tmp 4), type := 28, pos := "l10_write.go:98", after := #[], guard := none },
  { dst := some 21, op := Op.move (Operand.tmp 8), type := 2, pos := "l10_write.go:98", after := #[], guard := none },
  { dst := some 22, op := Op.indexAddr 28 (Operand.tmp 20) (Operand.tmp 21), type := 0, pos := "l10_write.go:98", after := #[{ on := 1, ground := Ground.data }, { on := 2, ground := Ground.data }], guard := none },
  { dst := some 23, op := Op.load 49 (Operand.tmp 22), type := 49, pos := "l10_write.go:98", after := #[{ on := 3, ground := Ground.data }], guard := none },
  { dst := some 24, op := Op.move (Operand.tmp 9), type := 90, pos := "l10_write.go:98", after := #[], guard := none },
  { dst := some 25, op := Op.call { callee := Callee.value (Operand.func 53), args := #[Operand.tmp 23, Operand.tmp 24], argTypes := #[49, 90] }, type := 85, pos := "l10_write.go:98", after := #[{ on := 4, ground := Ground.data }, { on := 5, ground := Ground.data }], guard := none },
  { dst := some 26, op := Op.field 85 (Operand.tmp 25) 1, type := 9, pos := "l10_write.go:98", after := #[{ on := 6, ground := Ground.data }], guard := none },
  { dst := some 27, op := Op.call { callee := Callee.builtin Builtin.len, args := #[Operand.tmp 26], argTypes := #[9] }, type := 3, pos := "l10_write.go:98", after := #[{ on := 7, ground := Ground.data }], guard := none },
  { dst := some 28, op := Op.binOp BinOp.add 3 (Operand.tmp 19) (Operand.tmp 27) 3, type := 3, pos := "l10_write.go:98", after := #[{ on := 0, ground := Ground.data }, { on := 8, ground := Ground.data }], guard := none },
  { dst := none, op := Op.store 3 (Operand.tmp 7) (Operand.tmp 28), type := 0, pos := "l10_write.go:98", after := #[{ on := 9, ground := Ground.data }, { on := 6, ground := Ground.chain }, { on := 0, ground := Ground.phase }, { on := 1, ground := Ground.phase }, { on := 2, ground := Ground.phase }, { on := 3, ground := Ground.phase }, { on := 4, ground := Ground.phase }, { on := 5, ground := Ground.phase }, { on := 6, ground := Ground.phase }, { on := 7, ground := Ground.phase }, { on := 8, ground := Ground.phase }, { on := 9, ground := Ground.phase }], guard := none }] := ⟨_, rfl⟩
  rw [← hO]
  have H0123456789 : ∀ w7, Below Z.heap.size Z w7 → w7.cell? ⟨sb, 0, none⟩ = some (.int .i64 (S : Int)) → w7.frozen? ⟨sb, 0, none⟩ = false → wpAnyIn (Fence.wide.inRound l') m' Tryd.prog .any OPS (fun e (a' : Act) X => e = Exit.normal ∧ ∃ w7, Below Z.heap.size Z w7 ∧ X = w7.setCell ⟨sb, 0, none⟩ (.int .i64 (IntKind.i64.wrap ((S : Int) + (T.length : Int))))) 1 #[true, true, true, true, true, true, true, true, true, true, false] { tmps := #[x0, x1, x2, x3, Value.pointer (some ⟨nbx, 0, none⟩), x5, x6, Value.pointer (some ⟨sb, 0, none⟩), Value.int .i64 (k : Int), Value.int .i64 sd, x10, x11, x12, x13, x14, x15, x16, x17, x18, Value.int .i64 (S : Int), Value.slice (some ⟨nb, no, none⟩) n cc, Value.int .i64 (k : Int), Value.pointer (some ⟨nb, no + k * 4, none⟩), Value.agg #[.int .i64 t.up, .string t.tg, .slice p t.at_.length pc, .slice p' t.tx.length pc'], Value.int .i64 sd, Value.agg #[.int .i64 0, .string ⟨T.toArray⟩], Value.string ⟨T.toArray⟩, Value.int .i64 (T.length : Int), Value.int .i64 (IntKind.i64.wrap ((S : Int) + (T.length : Int))), x29], defers := ds } w7 := by
    intro w7 hb7 c7 f7
    rw [hO]
    refine wpAnyIn_ready (rs := [10]) (by kernel_rfl) (by simp) ?_
    refine AllReadyIn.cons (o := ⟨_, _, _, _, _, _⟩) rfl (fun K hK => ?_) AllReadyIn.nil
    · go_simp
      refine hK _ _ ?_
      refine wpAnyIn_done (by kernel_rfl) ?_ _
      exact ⟨rfl, w7, hb7, rfl⟩
  have H012345678 : ∀ w7, Below Z.heap.size Z w7 → w7.cell? ⟨sb, 0, none⟩ = some (.int .i64 (S : Int)) → w7.frozen? ⟨sb, 0, none⟩ = false → wpAnyIn (Fence.wide.inRound l') m' Tryd.prog .any OPS (fun e (a' : Act) X => e = Exit.normal ∧ ∃ w7, Below Z.heap.size Z w7 ∧ X = w7.setCell ⟨sb, 0, none⟩ (.int .i64 (IntKind.i64.wrap ((S : Int) + (T.length : Int))))) 2 #[true, true, true, true, true, true, true, true, true, false, false] { tmps := #[x0, x1, x2, x3, Value.pointer (some ⟨nbx, 0, none⟩), x5, x6, Value.pointer (some ⟨sb, 0, none⟩), Value.int .i64 (k : Int), Value.int .i64 sd, x10, x11, x12, x13, x14, x15, x16, x17, x18, Value.int .i64 (S : Int), Value.slice (some ⟨nb, no, none⟩) n cc, Value.int .i64 (k : Int), Value.pointer (some ⟨nb, no + k * 4, none⟩), Value.agg #[.int .i64 t.up, .string t.tg, .slice p t.at_.length pc, .slice p' t.tx.length pc'], Value.int .i64 sd, Value.agg #[.int .i64 0, .string ⟨T.toArray⟩], Value.string ⟨T.toArray⟩, Value.int .i64 (T.length : Int), x28, x29], defers := ds } w7 := by
    intro w7 hb7 c7 f7
    rw [hO]
    refine wpAnyIn_ready (rs := [9]) (by kernel_rfl) (by simp) ?_
    refine AllReadyIn.cons (o := ⟨_, _, _, _, _, _⟩) rfl (fun K hK => ?_) AllReadyIn.nil
    · go_simp
      refine hK _ _ ?_
      rw [← hO]
      exact H0123456789 w7 hb7 c7 f7
  have H01234567 : ∀ w7, Below Z.heap.size Z w7 → w7.cell? ⟨sb, 0, none⟩ = some (.int .i64 (S : Int)) → w7.frozen? ⟨sb, 0, none⟩ = false → wpAnyIn (Fence.wide.inRound l') m' Tryd.prog .any OPS (fun e (a' : Act) X => e = Exit.normal ∧ ∃ w7, Below Z.heap.size Z w7 ∧ X = w7.setCell ⟨sb, 0, none⟩ (.int .i64 (IntKind.i64.wrap ((S : Int) + (T.length : Int))))) 3 #[true, true, true, true, true, true, true, true, false, false, false] { tmps := #[x0, x1, x2, x3, Value.pointer (some ⟨nbx, 0, none⟩), x5, x6, Value.pointer (some ⟨sb, 0, none⟩), Value.int .i64 (k : Int), Value.int .i64 sd, x10, x11, x12, x13, x14, x15, x16, x17, x18, Value.int .i64 (S : Int), Value.slice (some ⟨nb, no, none⟩) n cc, Value.int .i64 (k : Int), Value.pointer (some ⟨nb, no + k * 4, none⟩), Value.agg #[.int .i64 t.up, .string t.tg, .slice p t.at_.length pc, .slice p' t.tx.length pc'], Value.int .i64 sd, Value.agg #[.int .i64 0, .string ⟨T.toArray⟩], Value.string ⟨T.toArray⟩, x27, x28, x29], defers := ds } w7 := by
    intro w7 hb7 c7 f7
    rw [hO]
    refine wpAnyIn_ready (rs := [8]) (by kernel_rfl) (by simp) ?_
    refine AllReadyIn.cons (o := ⟨_, _, _, _, _, _⟩) rfl (fun K hK => ?_) AllReadyIn.nil
    · go_simp
      refine hK _ _ ?_
      rw [← hO]
      exact H012345678 w7 hb7 c7 f7
  have H0123456 : ∀ w7, Below Z.heap.size Z w7 → w7.cell? ⟨sb, 0, none⟩ = some (.int .i64 (S : Int)) → w7.frozen? ⟨sb, 0, none⟩ = false → wpAnyIn (Fence.wide.inRound l') m' Tryd.prog .any OPS (fun e (a' : Act) X => e = Exit.normal ∧ ∃ w7, Below Z.heap.size Z w7 ∧ X = w7.setCell ⟨sb, 0, none⟩ (.int .i64 (IntKind.i64.wrap ((S : Int) + (T.length : Int))))) 4 #[true, true, true, true, true, true, true, false, false, false, false] { tmps := #[x0, x1, x2, x3, Value.pointer (some ⟨nbx, 0, none⟩), x5, x6, Value.pointer (some ⟨sb, 0, none⟩), Value.int .i64 (k : Int), Value.int .i64 sd, x10, x11, x12, x13, x14, x15, x16, x17, x18, Value.int .i64 (S : Int), Value.slice (some ⟨nb, no, none⟩) n cc, Value.int .i64 (k : Int), Value.pointer (some ⟨nb, no + k * 4, none⟩), Value.agg #[.int .i64 t.up, .string t.tg, .slice p t.at_.length pc, .slice p' t.tx.length pc'], Value.int .i64 sd, Value.agg #[.int .i64 0, .string ⟨T.toArray⟩], x26, x27, x28, x29], defers := ds } w7 := by
    intro w7 hb7 c7 f7
    rw [hO]
    refine wpAnyIn_ready (rs := [7]) (by kernel_rfl) (by simp) ?_
    refine AllReadyIn.cons (o := ⟨_, _, _, _, _, _⟩) rfl (fun K hK => ?_) AllReadyIn.nil
    · go_simp
      refine hK _ _ ?_
      rw [← hO]
      exact H01234567 w7 hb7 c7 f7
  have H012345 : wpAnyIn (Fence.wide.inRound l') m' Tryd.prog .any OPS (fun e (a' : Act) X => e = Exit.normal ∧ ∃ w7, Below Z.heap.size Z w7 ∧ X = w7.setCell ⟨sb, 0, none⟩ (.int .i64 (IntKind.i64.wrap ((S : Int) + (T.length : Int))))) 5 #[true, true, true, true, true, true, false, false, false, false, false] { tmps := #[x0, x1, x2, x3, Value.pointer (some ⟨nbx, 0, none⟩), x5, x6, Value.pointer (some ⟨sb, 0, none⟩), Value.int .i64 (k : Int), Value.int .i64 sd, x10, x11, x12, x13, x14, x15, x16, x17, x18, Value.int .i64 (S : Int), Value.slice (some ⟨nb, no, none⟩) n cc, Value.int .i64 (k : Int), Value.pointer (some ⟨nb, no + k * 4, none⟩), Value.agg #[.int .i64 t.up, .string t.tg, .slice p t.at_.length pc, .slice p' t.tx.length pc'], Value.int .i64 sd, x25, x26, x27, x28, x29], defers := ds } Z.drew := by
    rw [hO]
    refine wpAnyIn_ready (rs := [6]) (by kernel_rfl) (by simp) ?_
    refine AllReadyIn.cons (o := ⟨_, _, _, _, _, _⟩) rfl (fun K hK => ?_) AllReadyIn.nil
    · go_simp
      refine ⟨trivial, fun h => absurd h (by decide), CallsIn.inRound l' (callsIn_wide.2 ((KE.out _ (Below.refl _ _).drew).mono ?_))⟩
      rintro e w7 ⟨rfl, hb7⟩
      replace hb7 := undrew hb7
      simp only []
      refine hK _ _ ?_
      rw [← hO]
      exact H0123456 w7 hb7 (by rw [(bcell hb7).1 _ _ sl]; exact s0) (by rw [(bcell hb7).2 _ _ sl]; exact sf)
  have H01234 : wpAnyIn (Fence.wide.inRound l') m' Tryd.prog .any OPS (fun e (a' : Act) X => e = Exit.normal ∧ ∃ w7, Below Z.heap.size Z w7 ∧ X = w7.setCell ⟨sb, 0, none⟩ (.int .i64 (IntKind.i64.wrap ((S : Int) + (T.length : Int))))) 6 #[true, true, true, true, true, false, false, false, false, false, false] { tmps := #[x0, x1, x2, x3, Value.pointer (some ⟨nbx, 0, none⟩), x5, x6, Value.pointer (some ⟨sb, 0, none⟩), Value.int .i64 (k : Int), Value.int .i64 sd, x10, x11, x12, x13, x14, x15, x16, x17, x18, Value.int .i64 (S : Int), Value.slice (some ⟨nb, no, none⟩) n cc, Value.int .i64 (k : Int), Value.pointer (some ⟨nb, no + k * 4, none⟩), Value.agg #[.int .i64 t.up, .string t.tg, .slice p t.at_.length pc, .slice p' t.tx.length pc'], x24, x25, x26, x27, x28, x29], defers := ds } Z.drew := by
    rw [hO]
    refine wpAnyIn_ready (rs := [5]) (by kernel_rfl) (by simp) ?_
    refine AllReadyIn.cons (o := ⟨_, _, _, _, _, _⟩) rfl (fun K hK => ?_) AllReadyIn.nil
    · go_simp
      refine hK _ _ ?_
      rw [← hO]
      exact H012345
  have H01235 : wpAnyIn (Fence.wide.inRound l') m' Tryd.prog .any OPS (fun e (a' : Act) X => e = Exit.normal ∧ ∃ w7, Below Z.heap.size Z w7 ∧ X = w7.setCell ⟨sb, 0, none⟩ (.int .i64 (IntKind.i64.wrap ((S : Int) + (T.length : Int))))) 6 #[true, true, true, true, false, true, false, false, false, false, false] { tmps := #[x0, x1, x2, x3, Value.pointer (some ⟨nbx, 0, none⟩), x5, x6, Value.pointer (some ⟨sb, 0, none⟩), Value.int .i64 (k : Int), Value.int .i64 sd, x10, x11, x12, x13, x14, x15, x16, x17, x18, Value.int .i64 (S : Int), Value.slice (some ⟨nb, no, none⟩) n cc, Value.int .i64 (k : Int), Value.pointer (some ⟨nb, no + k * 4, none⟩), x23, Value.int .i64 sd, x25, x26, x27, x28, x29], defers := ds } Z.drew := by
    rw [hO]
    refine wpAnyIn_ready (rs := [4]) (by kernel_rfl) (by simp) ?_
    refine AllReadyIn.cons (o := ⟨_, _, _, _, _, _⟩) rfl (fun K hK => ?_) AllReadyIn.nil
    · go_simp
      refine hK _ _ ?_
      rw [← hO]
      exact H012345
  have H0123 : wpAnyIn (Fence.wide.inRound l') m' Tryd.prog .any OPS (fun e (a' : Act) X => e = Exit.normal ∧ ∃ w7, Below Z.heap.size Z w7 ∧ X = w7.setCell ⟨sb, 0, none⟩ (.int .i64 (IntKind.i64.wrap ((S : Int) + (T.length : Int))))) 7 #[true, true, true, true, false, false, false, false, false, false, false] { tmps := #[x0, x1, x2, x3, Value.pointer (some ⟨nbx, 0, none⟩), x5, x6, Value.pointer (some ⟨sb, 0, none⟩), Value.int .i64 (k : Int), Value.int .i64 sd, x10, x11, x12, x13, x14, x15, x16, x17, x18, Value.int .i64 (S : Int), Value.slice (some ⟨nb, no, none⟩) n cc, Value.int .i64 (k : Int), Value.pointer (some ⟨nb, no + k * 4, none⟩), x23, x24, x25, x26, x27, x28, x29], defers := ds } Z.drew := by
    rw [hO]
    refine wpAnyIn_ready (rs := [4, 5]) (by kernel_rfl) (by simp) ?_
    refine AllReadyIn.cons (o := ⟨_, _, _, _, _, _⟩) rfl (fun K hK => ?_) (AllReadyIn.cons (o := ⟨_, _, _, _, _, _⟩) rfl (fun K hK => ?_) AllReadyIn.nil)
    · go_simp
      refine hK _ _ ?_
      rw [← hO]
      exact H01234
    · go_simp
      refine hK _ _ ?_
      rw [← hO]
      exact H01235
  have H0125 : wpAnyIn (Fence.wide.inRound l') m' Tryd.prog .any OPS (fun e (a' : Act) X => e = Exit.normal ∧ ∃ w7, Below Z.heap.size Z w7 ∧ X = w7.setCell ⟨sb, 0, none⟩ (.int .i64 (IntKind.i64.wrap ((S : Int) + (T.length : Int))))) 7 #[true, true, true, false, false, true, false, false, false, false, false] { tmps := #[x0, x1, x2, x3, Value.pointer (some ⟨nbx, 0, none⟩), x5, x6, Value.pointer (some ⟨sb, 0, none⟩), Value.int .i64 (k : Int), Value.int .i64 sd, x10, x11, x12, x13, x14, x15, x16, x17, x18, Value.int .i64 (S : Int), Value.slice (some ⟨nb, no, none⟩) n cc, Value.int .i64 (k : Int), x22, x23, Value.int .i64 sd, x25, x26, x27, x28, x29], defers := ds } Z.drew := by
    rw [hO]
    refine wpAnyIn_ready (rs := [3]) (by kernel_rfl) (by simp) ?_
    refine AllReadyIn.cons (o := ⟨_, _, _, _, _, _⟩) rfl (fun K hK => ?_) AllReadyIn.nil
    · go_simp
      refine hK _ _ ?_
      rw [← hO]
      exact H01235
  have H012 : wpAnyIn (Fence.wide.inRound l') m' Tryd.prog .any OPS (fun e (a' : Act) X => e = Exit.normal ∧ ∃ w7, Below Z.heap.size Z w7 ∧ X = w7.setCell ⟨sb, 0, none⟩ (.int .i64 (IntKind.i64.wrap ((S : Int) + (T.length : Int))))) 8 #[true, true, true, false, false, false, false, false, false, false, false] { tmps := #[x0, x1, x2, x3, Value.pointer (some ⟨nbx, 0, none⟩), x5, x6, Value.pointer (some ⟨sb, 0, none⟩), Value.int .i64 (k : Int), Value.int .i64 sd, x10, x11, x12, x13, x14, x15, x16, x17, x18, Value.int .i64 (S : Int), Value.slice (some ⟨nb, no, none⟩) n cc, Value.int .i64 (k : Int), x22, x23, x24, x25, x26, x27, x28, x29], defers := ds } Z.drew := by
    rw [hO]
    refine wpAnyIn_ready (rs := [3, 5]) (by kernel_rfl) (by simp) ?_
    refine AllReadyIn.cons (o := ⟨_, _, _, _, _, _⟩) rfl (fun K hK => ?_) (AllReadyIn.cons (o := ⟨_, _, _, _, _, _⟩) rfl (fun K hK => ?_) AllReadyIn.nil)
    · go_simp
      refine hK _ _ ?_
      rw [← hO]
      exact H0123
    · go_simp
      refine hK _ _ ?_
      rw [← hO]
      exact H0125
  have H015 : wpAnyIn (Fence.wide.inRound l') m' Tryd.prog .any OPS (fun e (a' : Act) X => e = Exit.normal ∧ ∃ w7, Below Z.heap.size Z w7 ∧ X = w7.setCell ⟨sb, 0, none⟩ (.int .i64 (IntKind.i64.wrap ((S : Int) + (T.length : Int))))) 8 #[true, true, false, false, false, true, false, false, false, false, false] { tmps := #[x0, x1, x2, x3, Value.pointer (some ⟨nbx, 0, none⟩), x5, x6, Value.pointer (some ⟨sb, 0, none⟩), Value.int .i64 (k : Int), Value.int .i64 sd, x10, x11, x12, x13, x14, x15, x16, x17, x18, Value.int .i64 (S : Int), Value.slice (some ⟨nb, no, none⟩) n cc, x21, x22, x23, Value.int .i64 sd, x25, x26, x27, x28, x29], defers := ds } Z.drew := by
    rw [hO]
    refine wpAnyIn_ready (rs := [2]) (by kernel_rfl) (by simp) ?_
    refine AllReadyIn.cons (o := ⟨_, _, _, _, _, _⟩) rfl (fun K hK => ?_) AllReadyIn.nil
    · go_simp
      refine hK _ _ ?_
      rw [← hO]
      exact H0125
  have H01 : wpAnyIn (Fence.wide.inRound l') m' Tryd.prog .any OPS (fun e (a' : Act) X => e = Exit.normal ∧ ∃ w7, Below Z.heap.size Z w7 ∧ X = w7.setCell ⟨sb, 0, none⟩ (.int .i64 (IntKind.i64.wrap ((S : Int) + (T.length : Int))))) 9 #[true, true, false, false, false, false, false, false, false, false, false] { tmps := #[x0, x1, x2, x3, Value.pointer (some ⟨nbx, 0, none⟩), x5, x6, Value.pointer (some ⟨sb, 0, none⟩), Value.int .i64 (k : Int), Value.int .i64 sd, x10, x11, x12, x13, x14, x15, x16, x17, x18, Value.int .i64 (S : Int), Value.slice (some ⟨nb, no, none⟩) n cc, x21, x22, x23, x24, x25, x26, x27, x28, x29], defers := ds } Z.drew := by
    rw [hO]
    refine wpAnyIn_ready (rs := [2, 5]) (by kernel_rfl) (by simp) ?_
    refine AllReadyIn.cons (o := ⟨_, _, _, _, _, _⟩) rfl (fun K hK => ?_) (AllReadyIn.cons (o := ⟨_, _, _, _, _, _⟩) rfl (fun K hK => ?_) AllReadyIn.nil)
    · go_simp
      refine hK _ _ ?_
      rw [← hO]
      exact H012
    · go_simp
      refine hK _ _ ?_
      rw [← hO]
      exact H015
  have H025 : wpAnyIn (Fence.wide.inRound l') m' Tryd.prog .any OPS (fun e (a' : Act) X => e = Exit.normal ∧ ∃ w7, Below Z.heap.size Z w7 ∧ X = w7.setCell ⟨sb, 0, none⟩ (.int .i64 (IntKind.i64.wrap ((S : Int) + (T.length : Int))))) 8 #[true, false, true, false, false, true, false, false, false, false, false] { tmps := #[x0, x1, x2, x3, Value.pointer (some ⟨nbx, 0, none⟩), x5, x6, Value.pointer (some ⟨sb, 0, none⟩), Value.int .i64 (k : Int), Value.int .i64 sd, x10, x11, x12, x13, x14, x15, x16, x17, x18, Value.int .i64 (S : Int), x20, Value.int .i64 (k : Int), x22, x23, Value.int .i64 sd, x25, x26, x27, x28, x29], defers := ds } Z.drew := by
    rw [hO]
    refine wpAnyIn_ready (rs := [1]) (by kernel_rfl) (by simp) ?_
    refine AllReadyIn.cons (o := ⟨_, _, _, _, _, _⟩) rfl (fun K hK => ?_) AllReadyIn.nil
    · go_simp
      refine hK _ _ ?_
      rw [← hO]
      exact H0125
  have H02 : wpAnyIn (Fence.wide.inRound l') m' Tryd.prog .any OPS (fun e (a' : Act) X => e = Exit.normal ∧ ∃ w7, Below Z.heap.size Z w7 ∧ X = w7.setCell ⟨sb, 0, none⟩ (.int .i64 (IntKind.i64.wrap ((S : Int) + (T.length : Int))))) 9 #[true, false, true, false, false, false, false, false, false, false, false] { tmps := #[x0, x1, x2, x3, Value.pointer (some ⟨nbx, 0, none⟩), x5, x6, Value.pointer (some ⟨sb, 0, none⟩), Value.int .i64 (k : Int), Value.int .i64 sd, x10, x11, x12, x13, x14, x15, x16, x17, x18, Value.int .i64 (S : Int), x20, Value.int .i64 (k : Int), x22, x23, x24, x25, x26, x27, x28, x29], defers := ds } Z.drew := by
    rw [hO]
    refine wpAnyIn_ready (rs := [1, 5]) (by kernel_rfl) (by simp) ?_
    refine AllReadyIn.cons (o := ⟨_, _, _, _, _, _⟩) rfl (fun K hK => ?_) (AllReadyIn.cons (o := ⟨_, _, _, _, _, _⟩) rfl (fun K hK => ?_) AllReadyIn.nil)
    · go_simp
      refine hK _ _ ?_
      rw [← hO]
      exact H012
    · go_simp
      refine hK _ _ ?_
      rw [← hO]
      exact H025
  have H05 : wpAnyIn (Fence.wide.inRound l') m' Tryd.prog .any OPS (fun e (a' : Act) X => e = Exit.normal ∧ ∃ w7, Below Z.heap.size Z w7 ∧ X = w7.setCell ⟨sb, 0, none⟩ (.int .i64 (IntKind.i64.wrap ((S : Int) + (T.length : Int))))) 9 #[true, false, false, false, false, true, false, false, false, false, false] { tmps := #[x0, x1, x2, x3, Value.pointer (some ⟨nbx, 0, none⟩), x5, x6, Value.pointer (some ⟨sb, 0, none⟩), Value.int .i64 (k : Int), Value.int .i64 sd, x10, x11, x12, x13, x14, x15, x16, x17, x18, Value.int .i64 (S : Int), x20, x21, x22, x23, Value.int .i64 sd, x25, x26, x27, x28, x29], defers := ds } Z.drew := by
    rw [hO]
    refine wpAnyIn_ready (rs := [1, 2]) (by kernel_rfl) (by simp) ?_
    refine AllReadyIn.cons (o := ⟨_, _, _, _, _, _⟩) rfl (fun K hK => ?_) (AllReadyIn.cons (o := ⟨_, _, _, _, _, _⟩) rfl (fun K hK => ?_) AllReadyIn.nil)
    · go_simp
      refine hK _ _ ?_
      rw [← hO]
      exact H015
    · go_simp
      refine hK _ _ ?_
      rw [← hO]
      exact H025
  have H0 : wpAnyIn (Fence.wide.inRound l') m' Tryd.prog .any OPS (fun e (a' : Act) X => e = Exit.normal ∧ ∃ w7, Below Z.heap.size Z w7 ∧ X = w7.setCell ⟨sb, 0, none⟩ (.int .i64 (IntKind.i64.wrap ((S : Int) + (T.length : Int))))) 10 #[true, false, false, false, false, false, false, false, false, false, false] { tmps := #[x0, x1, x2, x3, Value.pointer (some ⟨nbx, 0, none⟩), x5, x6, Value.pointer (some ⟨sb, 0, none⟩), Value.int .i64 (k : Int), Value.int .i64 sd, x10, x11, x12, x13, x14, x15, x16, x17, x18, Value.int .i64 (S : Int), x20, x21, x22, x23, x24, x25, x26, x27, x28, x29], defers := ds } Z.drew := by
    rw [hO]
    refine wpAnyIn_ready (rs := [1, 2, 5]) (by kernel_rfl) (by simp) ?_
    refine AllReadyIn.cons (o := ⟨_, _, _, _, _, _⟩) rfl (fun K hK => ?_) (AllReadyIn.cons (o := ⟨_, _, _, _, _, _⟩) rfl (fun K hK => ?_) (AllReadyIn.cons (o := ⟨_, _, _, _, _, _⟩) rfl (fun K hK => ?_) AllReadyIn.nil))
    · go_simp
      refine hK _ _ ?_
      rw [← hO]
      exact H01
    · go_simp
      refine hK _ _ ?_
      rw [← hO]
      exact H02
    · go_simp
      refine hK _ _ ?_
      rw [← hO]
      exact H05
  have H12345678 : ∀ w7, Below Z.heap.size Z w7 → w7.cell? ⟨sb, 0, none⟩ = some (.int .i64 (S : Int)) → w7.frozen? ⟨sb, 0, none⟩ = false → wpAnyIn (Fence.wide.inRound l') m' Tryd.prog .any OPS (fun e (a' : Act) X => e = Exit.normal ∧ ∃ w7, Below Z.heap.size Z w7 ∧ X = w7.setCell ⟨sb, 0, none⟩ (.int .i64 (IntKind.i64.wrap ((S : Int) + (T.length : Int))))) 3 #[false, true, true, true, true, true, true, true, true, false, false] { tmps := #[x0, x1, x2, x3, Value.pointer (some ⟨nbx, 0, none⟩), x5, x6, Value.pointer (some ⟨sb, 0, none⟩), Value.int .i64 (k : Int), Value.int .i64 sd, x10, x11, x12, x13, x14, x15, x16, x17, x18, x19, Value.slice (some ⟨nb, no, none⟩) n cc, Value.int .i64 (k : Int), Value.pointer (some ⟨nb, no + k * 4, none⟩), Value.agg #[.int .i64 t.up, .string t.tg, .slice p t.at_.length pc, .slice p' t.tx.length pc'], Value.int .i64 sd, Value.agg #[.int .i64 0, .string ⟨T.toArray⟩], Value.string ⟨T.toArray⟩, Value.int .i64 (T.length : Int), x28, x29], defers := ds } w7 := by
    intro w7 hb7 c7 f7
    rw [hO]
    refine wpAnyIn_ready (rs := [0]) (by kernel_rfl) (by simp) ?_
    refine AllReadyIn.cons (o := ⟨_, _, _, _, _, _⟩) rfl (fun K hK => ?_) AllReadyIn.nil
    · go_simp
      refine hK _ _ ?_
      rw [← hO]
      exact H012345678 w7 hb7 c7 f7
  have H1234567 : ∀ w7, Below Z.heap.size Z w7 → w7.cell? ⟨sb, 0, none⟩ = some (.int .i64 (S : Int)) → w7.frozen? ⟨sb, 0, none⟩ = false → wpAnyIn (Fence.wide.inRound l') m' Tryd.prog .any OPS (fun e (a' : Act) X => e = Exit.normal ∧ ∃ w7, Below Z.heap.size Z w7 ∧ X = w7.setCell ⟨sb, 0, none⟩ (.int .i64 (IntKind.i64.wrap ((S : Int) + (T.length : Int))))) 4 #[false, true, true, true, true, true, true, true, false, false, false] { tmps := #[x0, x1, x2, x3, Value.pointer (some ⟨nbx, 0, none⟩), x5, x6, Value.pointer (some ⟨sb, 0, none⟩), Value.int .i64 (k : Int), Value.int .i64 sd, x10, x11, x12, x13, x14, x15, x16, x17, x18, x19, Value.slice (some ⟨nb, no, none⟩) n cc, Value.int .i64 (k : Int), Value.pointer (some ⟨nb, no + k * 4, none⟩), Value.agg #[.int .i64 t.up, .string t.tg, .slice p t.at_.length pc, .slice p' t.tx.length pc'], Value.int .i64 sd, Value.agg #[.int .i64 0, .string ⟨T.toArray⟩], Value.string ⟨T.toArray⟩, x27, x28, x29], defers := ds } w7 := by
    intro w7 hb7 c7 f7
    rw [hO]
    refine wpAnyIn_ready (rs := [0, 8]) (by kernel_rfl) (by simp) ?_
    refine AllReadyIn.cons (o := ⟨_, _, _, _, _, _⟩) rfl (fun K hK => ?_) (AllReadyIn.cons (o := ⟨_, _, _, _, _, _⟩) rfl (fun K hK => ?_) AllReadyIn.nil)
    · go_simp
      refine hK _ _ ?_
      rw [← hO]
      exact H01234567 w7 hb7 c7 f7
    · go_simp
      refine hK _ _ ?_
      rw [← hO]
      exact H12345678 w7 hb7 c7 f7
  have H123456 : ∀ w7, Below Z.heap.size Z w7 → w7.cell? ⟨sb, 0, none⟩ = some (.int .i64 (S : Int)) → w7.frozen? ⟨sb, 0, none⟩ = false → wpAnyIn (Fence.wide.inRound l') m' Tryd.prog .any OPS (fun e (a' : Act) X => e = Exit.normal ∧ ∃ w7, Below Z.heap.size Z w7 ∧ X = w7.setCell ⟨sb, 0, none⟩ (.int .i64 (IntKind.i64.wrap ((S : Int) + (T.length : Int))))) 5 #[false, true, true, true, true, true, true, false, false, false, false] { tmps := #[x0, x1, x2, x3, Value.pointer (some ⟨nbx, 0, none⟩), x5, x6, Value.pointer (some ⟨sb, 0, none⟩), Value.int .i64 (k : Int), Value.int .i64 sd, x10, x11, x12, x13, x14, x15, x16, x17, x18, x19, Value.slice (some ⟨nb, no, none⟩) n cc, Value.int .i64 (k : Int), Value.pointer (some ⟨nb, no + k * 4, none⟩), Value.agg #[.int .i64 t.up, .string t.tg, .slice p t.at_.length pc, .slice p' t.tx.length pc'], Value.int .i64 sd, Value.agg #[.int .i64 0, .string ⟨T.toArray⟩], x26, x27, x28, x29], defers := ds } w7 := by
    intro w7 hb7 c7 f7
    rw [hO]
    refine wpAnyIn_ready (rs := [0, 7]) (by kernel_rfl) (by simp) ?_
    refine AllReadyIn.cons (o := ⟨_, _, _, _, _, _⟩) rfl (fun K hK => ?_) (AllReadyIn.cons (o := ⟨_, _, _, _, _, _⟩) rfl (fun K hK => ?_) AllReadyIn.nil)
    · go_simp
      refine hK _ _ ?_
      rw [← hO]
      exact H0123456 w7 hb7 c7 f7
    · go_simp
      refine hK _ _ ?_
      rw [← hO]
      exact H1234567 w7 hb7 c7 f7
  have H12345 : wpAnyIn (Fence.wide.inRound l') m' Tryd.prog .any OPS (fun e (a' : Act) X => e = Exit.normal ∧ ∃ w7, Below Z.heap.size Z w7 ∧ X = w7.setCell ⟨sb, 0, none⟩ (.int .i64 (IntKind.i64.wrap ((S : Int) + (T.length : Int))))) 6 #[false, true, true, true, true, true, false, false, false, false, false] { tmps := #[x0, x1, x2, x3, Value.pointer (some ⟨nbx, 0, none⟩), x5, x6, Value.pointer (some ⟨sb, 0, none⟩), Value.int .i64 (k : Int), Value.int .i64 sd, x10, x11, x12, x13, x14, x15, x16, x17, x18, x19, Value.slice (some ⟨nb, no, none⟩) n cc, Value.int .i64 (k : Int), Value.pointer (some ⟨nb, no + k * 4, none⟩), Value.agg #[.int .i64 t.up, .string t.tg, .slice p t.at_.length pc, .slice p' t.tx.length pc'], Value.int .i64 sd, x25, x26, x27, x28, x29], defers := ds } Z.drew := by
    rw [hO]
    refine wpAnyIn_ready (rs := [0, 6]) (by kernel_rfl) (by simp) ?_
    refine AllReadyIn.cons (o := ⟨_, _, _, _, _, _⟩) rfl (fun K hK => ?_) (AllReadyIn.cons (o := ⟨_, _, _, _, _, _⟩) rfl (fun K hK => ?_) AllReadyIn.nil)
    · go_simp
      refine hK _ _ ?_
      rw [← hO]
      exact H012345
    · go_simp
      refine ⟨trivial, fun h => absurd h (by decide), CallsIn.inRound l' (callsIn_wide.2 ((KE.out _ (Below.refl _ _).drew).mono ?_))⟩
      rintro e w7 ⟨rfl, hb7⟩
      replace hb7 := undrew hb7
      simp only []
      refine hK _ _ ?_
      rw [← hO]
      exact H123456 w7 hb7 (by rw [(bcell hb7).1 _ _ sl]; exact s0) (by rw [(bcell hb7).2 _ _ sl]; exact sf)
  have H1234 : wpAnyIn (Fence.wide.inRound l') m' Tryd.prog .any OPS (fun e (a' : Act) X => e = Exit.normal ∧ ∃ w7, Below Z.heap.size Z w7 ∧ X = w7.setCell ⟨sb, 0, none⟩ (.int .i64 (IntKind.i64.wrap ((S : Int) + (T.length : Int))))) 7 #[false, true, true, true, true, false, false, false, false, false, false] { tmps := #[x0, x1, x2, x3, Value.pointer (some ⟨nbx, 0, none⟩), x5, x6, Value.pointer (some ⟨sb, 0, none⟩), Value.int .i64 (k : Int), Value.int .i64 sd, x10, x11, x12, x13, x14, x15, x16, x17, x18, x19, Value.slice (some ⟨nb, no, none⟩) n cc, Value.int .i64 (k : Int), Value.pointer (some ⟨nb, no + k * 4, none⟩), Value.agg #[.int .i64 t.up, .string t.tg, .slice p t.at_.length pc, .slice p' t.tx.length pc'], x24, x25, x26, x27, x28, x29], defers := ds } Z.drew := by
    rw [hO]
    refine wpAnyIn_ready (rs := [0, 5]) (by kernel_rfl) (by simp) ?_
    refine AllReadyIn.cons (o := ⟨_, _, _, _, _, _⟩) rfl (fun K hK => ?_) (AllReadyIn.cons (o := ⟨_, _, _, _, _, _⟩) rfl (fun K hK => ?_) AllReadyIn.nil)
    · go_simp
      refine hK _ _ ?_
      rw [← hO]
      exact H01234
    · go_simp
      refine hK _ _ ?_
      rw [← hO]
      exact H12345
  have H1235 : wpAnyIn (Fence.wide.inRound l') m' Tryd.prog .any OPS (fun e (a' : Act) X => e = Exit.normal ∧ ∃ w7, Below Z.heap.size Z w7 ∧ X = w7.setCell ⟨sb, 0, none⟩ (.int .i64 (IntKind.i64.wrap ((S : Int) + (T.length : Int))))) 7 #[false, true, true, true, false, true, false, false, false, false, false] { tmps := #[x0, x1, x2, x3, Value.pointer (some ⟨nbx, 0, none⟩), x5, x6, Value.pointer (some ⟨sb, 0, none⟩), Value.int .i64 (k : Int), Value.int .i64 sd, x10, x11, x12, x13, x14, x15, x16, x17, x18, x19, Value.slice (some ⟨nb, no, none⟩) n cc, Value.int .i64 (k : Int), Value.pointer (some ⟨nb, no + k * 4, none⟩), x23, Value.int .i64 sd, x25, x26, x27, x28, x29], defers := ds } Z.drew := by
    rw [hO]
    refine wpAnyIn_ready (rs := [0, 4]) (by kernel_rfl) (by simp) ?_
    refine AllReadyIn.cons (o := ⟨_, _, _, _, _, _⟩) rfl (fun K hK => ?_) (AllReadyIn.cons (o := ⟨_, _, _, _, _, _⟩) rfl (fun K hK => ?_) AllReadyIn.nil)
    · go_simp
      refine hK _ _ ?_
      rw [← hO]
      exact H01235
    · go_simp
      refine hK _ _ ?_
      rw [← hO]
      exact H12345
  have H123 : wpAnyIn (Fence.wide.inRound l') m' Tryd.prog .any OPS (fun e (a' : Act) X => e = Exit.normal ∧ ∃ w7, Below Z.heap.size Z w7 ∧ X = w7.setCell ⟨sb, 0, none⟩ (.int .i64 (IntKind.i64.wrap ((S : Int) + (T.length : Int))))) 8 #[false, true, true, true, false, false, false, false, false, false, false] { tmps := #[x0, x1, x2, x3, Value.pointer (some ⟨nbx, 0, none⟩), x5, x6, Value.pointer (some ⟨sb, 0, none⟩), Value.int .i64 (k : Int), Value.int .i64 sd, x10, x11, x12, x13, x14, x15, x16, x17, x18, x19, Value.slice (some ⟨nb, no, none⟩) n cc, Value.int .i64 (k : Int), Value.pointer (some ⟨nb, no + k * 4, none⟩), x23, x24, x25, x26, x27, x28, x29], defers := ds } Z.drew := by
    rw [hO]
    refine wpAnyIn_ready (rs := [0, 4, 5]) (by kernel_rfl) (by simp) ?_
    refine AllReadyIn.cons (o := ⟨_, _, _, _, _, _⟩) rfl (fun K hK => ?_) (AllReadyIn.cons (o := ⟨_, _, _, _, _, _⟩) rfl (fun K hK => ?_) (AllReadyIn.cons (o := ⟨_, _, _, _, _, _⟩) rfl (fun K hK => ?_) AllReadyIn.nil))
    · go_simp
      refine hK _ _ ?_
      rw [← hO]
      exact H0123
    · go_simp
      refine hK _ _ ?_
      rw [← hO]
      exact H1234
    · go_simp
      refine hK _ _ ?_
      rw [← hO]
      exact H1235
  have H125 : wpAnyIn (Fence.wide.inRound l') m' Tryd.prog .any OPS (fun e (a' : Act) X => e = Exit.normal ∧ ∃ w7, Below Z.heap.size Z w7 ∧ X = w7.setCell ⟨sb, 0, none⟩ (.int .i64 (IntKind.i64.wrap ((S : Int) + (T.length : Int))))) 8 #[false, true, true, false, false, true, false, false, false, false, false] { tmps := #[x0, x1, x2, x3, Value.pointer (some ⟨nbx, 0, none⟩), x5, x6, Value.pointer (some ⟨sb, 0, none⟩), Value.int .i64 (k : Int), Value.int .i64 sd, x10, x11, x12, x13, x14, x15, x16, x17, x18, x19, Value.slice (some ⟨nb, no, none⟩) n cc, Value.int .i64 (k : Int), x22, x23, Value.int .i64 sd, x25, x26, x27, x28, x29], defers := ds } Z.drew := by
    rw [hO]
    refine wpAnyIn_ready (rs := [0, 3]) (by kernel_rfl) (by simp) ?_
    refine AllReadyIn.cons (o := ⟨_, _, _, _, _, _⟩) rfl (fun K hK => ?_) (AllReadyIn.cons (o := ⟨_, _, _, _, _, _⟩) rfl (fun K hK => ?_) AllReadyIn.nil)
    · go_simp
      refine hK _ _ ?_
      rw [← hO]
      exact H0125
    · go_simp
      refine hK _ _ ?_
      rw [← hO]
      exact H1235
  have H12 : wpAnyIn (Fence.wide.inRound l') m' Tryd.prog .any OPS (fun e (a' : Act) X => e = Exit.normal ∧ ∃ w7, Below Z.heap.size Z w7 ∧ X = w7.setCell ⟨sb, 0, none⟩ (.int .i64 (IntKind.i64.wrap ((S : Int) + (T.length : Int))))) 9 #[false, true, true, false, false, false, false, false, false, false, false] { tmps := #[x0, x1, x2, x3, Value.pointer (some ⟨nbx, 0, none⟩), x5, x6, Value.pointer (some ⟨sb, 0, none⟩), Value.int .i64 (k : Int), Value.int .i64 sd, x10, x11, x12, x13, x14, x15, x16, x17, x18, x19, Value.slice (some ⟨nb, no, none⟩) n cc, Value.int .i64 (k : Int), x22, x23, x24, x25, x26, x27, x28, x29], defers := ds } Z.drew := by
    rw [hO]
    refine wpAnyIn_ready (rs := [0, 3, 5]) (by kernel_rfl) (by simp) ?_
    refine AllReadyIn.cons (o := ⟨_, _, _, _, _, _⟩) rfl (fun K hK => ?_) (AllReadyIn.cons (o := ⟨_, _, _, _, _, _⟩) rfl (fun K hK => ?_) (AllReadyIn.cons (o := ⟨_, _, _, _, _, _⟩) rfl (fun K hK => ?_) AllReadyIn.nil))
    · go_simp
      refine hK _ _ ?_
      rw [← hO]
      exact H012
    · go_simp
      refine hK _ _ ?_
      rw [← hO]
      exact H123
    · go_simp
      refine hK _ _ ?_
      rw [← hO]
      exact H125
  have H15 : wpAnyIn (Fence.wide.inRound l') m' Tryd.prog .any OPS (fun e (a' : Act) X => e = Exit.normal ∧ ∃ w7, Below Z.heap.size Z w7 ∧ X = w7.setCell ⟨sb, 0, none⟩ (.int .i64 (IntKind.i64.wrap ((S : Int) + (T.length : Int))))) 9 #[false, true, false, false, false, true, false, false, false, false, false] { tmps := #[x0, x1, x2, x3, Value.pointer (some ⟨nbx, 0, none⟩), x5, x6, Value.pointer (some ⟨sb, 0, none⟩), Value.int .i64 (k : Int), Value.int .i64 sd, x10, x11, x12, x13, x14, x15, x16, x17, x18, x19, Value.slice (some ⟨nb, no, none⟩) n cc, x21, x22, x23, Value.int .i64 sd, x25, x26, x27, x28, x29], defers := ds } Z.drew := by
    rw [hO]
    refine wpAnyIn_ready (rs := [0, 2]) (by kernel_rfl) (by simp) ?_
    refine AllReadyIn.cons (o := ⟨_, _, _, _, _, _⟩) rfl (fun K hK => ?_) (AllReadyIn.cons (o := ⟨_, _, _, _, _, _⟩) rfl (fun K hK => ?_) AllReadyIn.nil)
    · go_simp
      refine hK _ _ ?_
      rw [← hO]
      exact H015
    · go_simp
      refine hK _ _ ?_
      rw [← hO]
      exact H125
  have H1 : wpAnyIn (Fence.wide.inRound l') m' Tryd.prog .any OPS (fun e (a' : Act) X => e = Exit.normal ∧ ∃ w7, Below Z.heap.size Z w7 ∧ X = w7.setCell ⟨sb, 0, none⟩ (.int .i64 (IntKind.i64.wrap ((S : Int) + (T.length : Int))))) 10 #[false, true, false, false, false, false, false, false, false, false, false] { tmps := #[x0, x1, x2, x3, Value.pointer (some ⟨nbx, 0, none⟩), x5, x6, Value.pointer (some ⟨sb, 0, none⟩), Value.int .i64 (k : Int), Value.int .i64 sd, x10, x11, x12, x13, x14, x15, x16, x17, x18, x19, Value.slice (some ⟨nb, no, none⟩) n cc, x21, x22, x23, x24, x25, x26, x27, x28, x29], defers := ds } Z.drew := by
    rw [hO]
    refine wpAnyIn_ready (rs := [0, 2, 5]) (by kernel_rfl) (by simp) ?_
    refine AllReadyIn.cons (o := ⟨_, _, _, _, _, _⟩) rfl (fun K hK => ?_) (AllReadyIn.cons (o := ⟨_, _, _, _, _, _⟩) rfl (fun K hK => ?_) (AllReadyIn.cons (o := ⟨_, _, _, _, _, _⟩) rfl (fun K hK => ?_) AllReadyIn.nil))
    · go_simp
      refine hK _ _ ?_
      rw [← hO]
      exact H01
    · go_simp
      refine hK _ _ ?_
      rw [← hO]
      exact H12
    · go_simp
      refine hK _ _ ?_
      rw [← hO]
      exact H15
  have H25 : wpAnyIn (Fence.wide.inRound l') m' Tryd.prog .any OPS (fun e (a' : Act) X => e = Exit.normal ∧ ∃ w7, Below Z.heap.size Z w7 ∧ X = w7.setCell ⟨sb, 0, none⟩ (.int .i64 (IntKind.i64.wrap ((S : Int) + (T.length : Int))))) 9 #[false, false, true, false, false, true, false, false, false, false, false] { tmps := #[x0, x1, x2, x3, Value.pointer (some ⟨nbx, 0, none⟩), x5, x6, Value.pointer (some ⟨sb, 0, none⟩), Value.int .i64 (k : Int), Value.int .i64 sd, x10, x11, x12, x13, x14, x15, x16, x17, x18, x19, x20, Value.int .i64 (k : Int), x22, x23, Value.int .i64 sd, x25, x26, x27, x28, x29], defers := ds } Z.drew := by
    rw [hO]
    refine wpAnyIn_ready (rs := [0, 1]) (by kernel_rfl) (by simp) ?_
    refine AllReadyIn.cons (o := ⟨_, _, _, _, _, _⟩) rfl (fun K hK => ?_) (AllReadyIn.cons (o := ⟨_, _, _, _, _, _⟩) rfl (fun K hK => ?_) AllReadyIn.nil)
    · go_simp
      refine hK _ _ ?_
      rw [← hO]
      exact H025
    · go_simp
      refine hK _ _ ?_
      rw [← hO]
      exact H125
  have H2 : wpAnyIn (Fence.wide.inRound l') m' Tryd.prog .any OPS (fun e (a' : Act) X => e = Exit.normal ∧ ∃ w7, Below Z.heap.size Z w7 ∧ X = w7.setCell ⟨sb, 0, none⟩ (.int .i64 (IntKind.i64.wrap ((S : Int) + (T.length : Int))))) 10 #[false, false, true, false, false, false, false, false, false, false, false] { tmps := #[x0, x1, x2, x3, Value.pointer (some ⟨nbx, 0, none⟩), x5, x6, Value.pointer (some ⟨sb, 0, none⟩), Value.int .i64 (k : Int), Value.int .i64 sd, x10, x11, x12, x13, x14, x15, x16, x17, x18, x19, x20, Value.int .i64 (k : Int), x22, x23, x24, x25, x26, x27, x28, x29], defers := ds } Z.drew := by
    rw [hO]
    refine wpAnyIn_ready (rs := [0, 1, 5]) (by kernel_rfl) (by simp) ?_
    refine AllReadyIn.cons (o := ⟨_, _, _, _, _, _⟩) rfl (fun K hK => ?_) (AllReadyIn.cons (o := ⟨_, _, _, _, _, _⟩) rfl (fun K hK => ?_) (AllReadyIn.cons (o := ⟨_, _, _, _, _, _⟩) rfl (fun K hK => ?_) AllReadyIn.nil))
    · go_simp
      refine hK _ _ ?_
      rw [← hO]
      exact H02
    · go_simp
      refine hK _ _ ?_
      rw [← hO]
      exact H12
    · go_simp
      refine hK _ _ ?_
      rw [← hO]
      exact H25
  have H5 : wpAnyIn (Fence.wide.inRound l') m' Tryd.prog .any OPS (fun e (a' : Act) X => e = Exit.normal ∧ ∃ w7, Below Z.heap.size Z w7 ∧ X = w7.setCell ⟨sb, 0, none⟩ (.int .i64 (IntKind.i64.wrap ((S : Int) + (T.length : Int))))) 10 #[false, false, false, false, false, true, false, false, false, false, false] { tmps := #[x0, x1, x2, x3, Value.pointer (some ⟨nbx, 0, none⟩), x5, x6, Value.pointer (some ⟨sb, 0, none⟩), Value.int .i64 (k : Int), Value.int .i64 sd, x10, x11, x12, x13, x14, x15, x16, x17, x18, x19, x20, x21, x22, x23, Value.int .i64 sd, x25, x26, x27, x28, x29], defers := ds } Z.drew := by
    rw [hO]
    refine wpAnyIn_ready (rs := [0, 1, 2]) (by kernel_rfl) (by simp) ?_
    refine AllReadyIn.cons (o := ⟨_, _, _, _, _, _⟩) rfl (fun K hK => ?_) (AllReadyIn.cons (o := ⟨_, _, _, _, _, _⟩) rfl (fun K hK => ?_) (AllReadyIn.cons (o := ⟨_, _, _, _, _, _⟩) rfl (fun K hK => ?_) AllReadyIn.nil))
    · go_simp
      refine hK _ _ ?_
      rw [← hO]
      exact H05
    · go_simp
      refine hK _ _ ?_
      rw [← hO]
      exact H15
    · go_simp
      refine hK _ _ ?_
      rw [← hO]
      exact H25
  have H : wpAnyIn (Fence.wide.inRound l') m' Tryd.prog .any OPS (fun e (a' : Act) X => e = Exit.normal ∧ ∃ w7, Below Z.heap.size Z w7 ∧ X = w7.setCell ⟨sb, 0, none⟩ (.int .i64 (IntKind.i64.wrap ((S : Int) + (T.length : Int))))) 11 #[false, false, false, false, false, false, false, false, false, false, false] { tmps := #[x0, x1, x2, x3, Value.pointer (some ⟨nbx, 0, none⟩), x5, x6, Value.pointer (some ⟨sb, 0, none⟩), Value.int .i64 (k : Int), Value.int .i64 sd, x10, x11, x12, x13, x14, x15, x16, x17, x18, x19, x20, x21, x22, x23, x24, x25, x26, x27, x28, x29], defers := ds } Z.drew := by
    rw [hO]
    refine wpAnyIn_ready (rs := [0, 1, 2, 5]) (by kernel_rfl) (by simp) ?_
    refine AllReadyIn.cons (o := ⟨_, _, _, _, _, _⟩) rfl (fun K hK => ?_) (AllReadyIn.cons (o := ⟨_, _, _, _, _, _⟩) rfl (fun K hK => ?_) (AllReadyIn.cons (o := ⟨_, _, _, _, _, _⟩) rfl (fun K hK => ?_) (AllReadyIn.cons (o := ⟨_, _, _, _, _, _⟩) rfl (fun K hK => ?_) AllReadyIn.nil)))
    · go_simp
      refine hK _ _ ?_
      rw [← hO]
      exact H0
    · go_simp
      refine hK _ _ ?_
      rw [← hO]
      exact H1
    · go_simp
      refine hK _ _ ?_
      rw [← hO]
      exact H2
    · go_simp
      refine hK _ _ ?_
      rw [← hO]
      exact H5
  rw [hO] at H ⊢
  exact H
end Go.Proofs.YtcjnfodkppcpoaaDoor
