/- readFloat at a text of digits with at most one point. -/
import Derived.Test.YthhdfbgjdfoalaaGreatDoorFo
import Derived.Test.YthhdfbgjdfoalaaGreatDoorFu
import Derived.Test.YthhdfbgjdfoalaaGreatDoorLem
import Derived.ScopeJumps
import Derived.WalkMore
namespace Go.Proofs.YthhdfbgjdfoalaaGreatDoor
open Go.RowKit
set_option linter.unusedVariables false
set_option linter.unusedSimpArgs false

def byS (s : ByteArray) (k : Nat) : Nat := if h : k < s.size then (s[k]'h).toNat else 0
def rfM (s : ByteArray) : Nat → Nat
  | 0 => 0
  | k + 1 => if byS s k = 46 then rfM s k else rfM s k * 10 + (byS s k - 48)
def rfN (s : ByteArray) : Nat → Nat
  | 0 => 0
  | k + 1 => if byS s k = 46 then rfN s k else if byS s k = 48 ∧ rfN s k = 0 then 0 else rfN s k + 1
def rfD (s : ByteArray) : Nat → Bool
  | 0 => false
  | k + 1 => if byS s k = 46 then true else rfD s k
def rfF (s : ByteArray) : Nat → Nat
  | 0 => 0
  | k + 1 => if byS s k = 46 then 0 else if rfD s k = true then rfF s k + 1 else 0
/-- Digits, the first byte one, and at most one point. -/
def isDec (s : ByteArray) : Prop := 1 ≤ s.size ∧ s.size ≤ 8 ∧ (48 ≤ byS s 0 ∧ byS s 0 ≤ 57) ∧ ∀ k, k < s.size → (48 ≤ byS s k ∧ byS s k ≤ 57) ∨ (byS s k = 46 ∧ rfD s k = false)

theorem byS_is {s : ByteArray} {k : Nat} (h : k < s.size) : (s[k]'h).toNat = byS s k := by unfold byS; rw [dif_pos h]
theorem rfN_le (s : ByteArray) : ∀ k, rfN s k ≤ k
  | 0 => Nat.le_refl _
  | k + 1 => by
    have := rfN_le s k
    unfold rfN
    split
    · omega
    · split <;> omega
theorem rfF_le (s : ByteArray) : ∀ k, rfF s k ≤ k
  | 0 => Nat.le_refl _
  | k + 1 => by
    have := rfF_le s k
    unfold rfF
    split
    · omega
    · split <;> omega
theorem rfM_lt (s : ByteArray) (h : isDec s) : ∀ k, k ≤ s.size → rfM s k < 10 ^ k
  | 0, _ => (by show 0 < 1; decide)
  | k + 1, hk => by
    have := rfM_lt s h k (by omega)
    have hc := h.2.2.2 k (by omega)
    have hp := Nat.pow_succ (n := 10) (m := k)
    unfold rfM
    split <;> omega
theorem rfM_zero (s : ByteArray) (h : isDec s) : ∀ k, k ≤ s.size → rfN s k = 0 → rfM s k = 0
  | 0, _, _ => rfl
  | k + 1, hk, hn => by
    have ih := rfM_zero s h k (by omega)
    have hc := h.2.2.2 k (by omega)
    unfold rfN at hn
    unfold rfM
    by_cases c : byS s k = 46
    · rw [if_pos c] at hn ⊢
      exact ih hn
    · rw [if_neg c] at hn ⊢
      by_cases d : byS s k = 48 ∧ rfN s k = 0
      · have := ih d.2
        omega
      · rw [if_neg d] at hn
        omega
theorem rfM_bd (s : ByteArray) (h : isDec s) (k : Nat) (hk : k ≤ s.size) : rfM s k < 100000000 := by
  have a := rfM_lt s h k hk
  have b : 10 ^ k ≤ 10 ^ 8 := Nat.pow_le_pow_right (by decide) (by have := h.2.1; omega)
  omega

theorem lower_any (c : Nat) (w : World) (h : (48 ≤ c ∧ c ≤ 57) ∨ c = 46) :
    Calls Tryz.prog 240 #[.int .u8 c] w fun e w' => e = .returned (.int .u8 c) ∧ w' = w := by
  have hb : ∀ c : Nat, c < 58 → ((48 ≤ c ∧ c ≤ 57) ∨ c = 46) → bits .or .u8 (c : Int) 32 = (c : Int) := by decide
  have hx := hb c (by omega) h
  go_enter Tryz.func240, Tryz.ntmps240
  go_wp2
  go_ret
  exact ⟨rfl, rfl⟩

theorem results_tmp7 {fn : Func} {a b c d e f g : Tmp} (h : fn.results = #[.tmp a, .tmp b, .tmp c, .tmp d, .tmp e, .tmp f, .tmp g]) (tmps : Array Value) (P : Program) (w : World) :
    (results fn tmps).run P w = .ok (.tuple #[tmps.getD a undef, tmps.getD b undef, tmps.getD c undef, tmps.getD d undef, tmps.getD e undef, tmps.getD f undef, tmps.getD g undef]) w := by
  simp [results, h]
/-- A scope whose labels nobody jumps to. -/
theorem wp_scope_plain {P : Program} {a : Act} {w : World} {Q : Exit → Act → World → Prop} {c : Code} (hg : ∀ l a w, ¬ Q (.goto l) a w) (first : c.wp P Q a w) : (Code.scope c).wp P Q a w := by
  intro b k cs
  obtain ⟨e, a₁, w₁, hq, harr⟩ := first b (.inScope c :: k) cs
  cases e with
  | normal => exact ⟨.normal, a₁, w₁, hq, .head step_scope (Steps.trans harr (.one step_inScope))⟩
  | exit id => exact ⟨.exit id, a₁, w₁, hq, fun k' hk => .head step_scope (harr k' (by simp [exitTo, hk]))⟩
  | goto l' => exact absurd hq (hg _ _ _)
  | ret => exact ⟨_, a₁, w₁, hq, .of_steps (.one step_scope) harr⟩
  | panic ch => exact ⟨_, a₁, w₁, hq, .of_steps (.one step_scope) harr⟩
  | outgrown => exact ⟨_, a₁, w₁, hq, .of_steps (.one step_scope) harr⟩

end Go.Proofs.YthhdfbgjdfoalaaGreatDoor
