/- A change: measured, copied, told to be the same. -/
import Derived.Test.YtbdjppiagjhfmaaSxb
import Derived.Test.YtbdjppiagjhfmaaSya
import Derived.Test.YtbdjppiagjhfmaaLtf
namespace Go.Proofs.Ytbdjppiagjhfmaa
open Go.RowKit
set_option linter.unusedVariables false
set_option linter.unusedSimpArgs false

/-- A change: its kind, its place, how many bytes it cuts, what it puts, its policy. -/
structure CH where
  kd : Int
  pl : Int
  nn : Int
  pt : List Int
  po : PO

def chsz (c : CH) : Nat := c.pt.length + psz c.po

/-- A change's cells. -/
abbrev chV (c : CH) (p a b d : Option Addr) (np n1 n2 n3 : Nat) : Array Value := #[.int .i64 c.kd, .int .i64 c.pl, .int .i64 c.nn, .slice p c.pt.length np, .slice a c.po.tg.length n1, .slice b c.po.at_.length n2, .slice d c.po.sc.length n3]

/-- A change lies in memory. -/
def CHAt (w : World) (p a b d : Option Addr) (c : CH) : Prop := BAt w p c.pt ∧ POAt w a b d c.po

theorem CHAt.below {w w' : World} {p a b d : Option Addr} {c : CH} (h : CHAt w p a b d c) (hb : Below w.heap.size w w') : CHAt w' p a b d c := ⟨h.1.below hb, h.2.below hb⟩

def WideCH (c : CH) : Prop := (c.pt.length : Int) ≤ 9223372036854775807 ∧ WideP c.po

set_option maxHeartbeats 1600000 in
theorem szChange_any (c : CH) (p a b d : Option Addr) (np n1 n2 n3 : Nat) (w : World) (ha : CHAt w p a b d c) (hw : WideCH c) :
    Calls Try.prog 6 #[.agg (chV c p a b d np n1 n2 n3), .int .i64 1048576] w fun e w' => e = .returned (.int .i64 (if 1048576 < (chsz c : Int) then -1 else 1048576 - chsz c)) ∧ Below w.heap.size w w' := by
  have N0 := below_new w (.cells (chV c p a b d np n1 n2 n3) 27)
  have R0 := RowA.new w 27 (chV c p a b d np n1 n2 n3)
  have HA := Hid.mk' (ha.below N0)
  have HB := Hid.mk' N0
  have CS : Hid (chsz c = c.pt.length + psz c.po) := Hid.mk' rfl
  have w1 := hw.1
  unfold chV at *
  have x3 := R0.cell 3 _ rfl
  have x4 := R0.cell 4 _ rfl
  have x5 := R0.cell 5 _ rfl
  have x6 := R0.cell 6 _ rfl
  have xl := R0.lt
  generalize chsz c = sz at *
  by_cases g1 : 1048576 < (c.pt.length : Int)
  · rw [if_pos (by have := CS.out; omega)]
    clear ha R0 N0
    go_enter Try.func6, Try.ntmps6
    go_wp2_with (go_at_call 28; refine (szByteS_any _ _ _ _ _ (by omega) (by omega) (by omega)).mono ?_; rintro e w' ⟨rfl, rfl⟩)
    go_ret
    exact ⟨rfl, HB.out⟩
  have KP := szPolicyZ_any c.po a b d n1 n2 n3 (1048576 - (c.pt.length : Int)) _ HA.out.2 hw.2 (by omega) (by omega)
  have gz : ¬ (1048576 - (c.pt.length : Int) < 0) := by omega
  clear ha N0 R0 hw
  generalize hW : w.alloc (.cells #[.int .i64 c.kd, .int .i64 c.pl, .int .i64 c.nn, .slice p c.pt.length np, .slice a c.po.tg.length n1, .slice b c.po.at_.length n2, .slice d c.po.sc.length n3] 27) = W at *
  by_cases g2 : 1048576 - (c.pt.length : Int) < (psz c.po : Int)
  · rw [if_pos g2] at KP
    rw [if_pos (by have := CS.out; omega)]
    have KP := Hid.mk' KP
    go_enter Try.func6, Try.ntmps6
    go_wp2_with (first | (go_at_call 28; refine (szByteS_any _ _ _ _ _ (by omega) (by omega) (by omega)).mono ?_; rintro e w' ⟨rfl, rfl⟩) | fail)
    clear hW
    refine KP.out.mono ?_
    rintro e w1 ⟨rfl, hb⟩
    have HB := Hid.mk' (HB.out.trans (hb.mono HB.out.size))
    clear hb KP
    go_wp2
    go_ret
    exact ⟨rfl, HB.out⟩
  rw [if_neg g2] at KP
  have E : 1048576 - (c.pt.length : Int) - psz c.po = 1048576 - (sz : Int) := by have := CS.out; omega
  rw [E] at KP
  have KP := Hid.mk' KP
  have gy : ¬ (1048576 - (sz : Int) < 0) := by omega
  have gq : ¬ (1048576 < (sz : Int)) := by omega
  rw [if_neg gq]
  clear E CS g2
  go_enter Try.func6, Try.ntmps6
  go_wp2_with (first | (go_at_call 28; refine (szByteS_any _ _ _ _ _ (by omega) (by omega) (by omega)).mono ?_; rintro e w' ⟨rfl, rfl⟩) | fail)
  clear hW
  refine KP.out.mono ?_
  rintro e w1 ⟨rfl, hb⟩
  have HB := Hid.mk' (HB.out.trans (hb.mono HB.out.size))
  clear hb KP
  go_wp2
  go_ret
  exact ⟨rfl, HB.out⟩

end Go.Proofs.Ytbdjppiagjhfmaa
