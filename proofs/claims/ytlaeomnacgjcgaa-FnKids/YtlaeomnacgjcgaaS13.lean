/- Walks: a reference by number, and either, the program's side. -/
import Derived.Test.YtlaeomnacgjcgaaS12
import Derived.Lib.SmallJoins
import Derived.Test.YtlaeomnacgjcgaaS6
import Derived.Test.YtlaeomnacgjcgaaS8
set_option linter.unusedVariables false
set_option linter.unusedSimpArgs false
namespace Go.Proofs.Ytlaeomnacgjcgaa
open Go.RowKit

end Go.Proofs.Ytlaeomnacgjcgaa

namespace Go.Proofs.Ytlaeomnacgjcgaa
open Go.RowKit

theorem tail_list (s : ByteArray) (k : Nat) : (s.extract k s.size).data.toList = s.data.toList.drop k := by
  rw [ext_list, List.take_of_length_le (by rw [List.length_drop, len_list]; omega)]

theorem refOf_byte (L : List UInt8) : (refOf L).1 ≤ 255 := by
  cases L with
  | nil => exact Nat.zero_le _
  | cons c R =>
    rw [refOf]
    split
    · cases semi R 5 with
      | none => exact Nat.zero_le _
      | some m =>
        cases hn : namedOf (R.take m) with
        | none => simp only [hn]; exact Nat.zero_le _
        | some b =>
          simp only [hn]
          unfold namedOf at hn
          split at hn
          · cases hn; decide
          split at hn
          · cases hn; decide
          split at hn
          · cases hn; decide
          split at hn
          · cases hn; decide
          split at hn
          · unfold numOf at hn
            split at hn
            · split at hn
              · rename_i h; cases hn; exact h.2
              · cases hn
            · cases hn
          · cases hn
    · exact Nat.zero_le _

end Go.Proofs.Ytlaeomnacgjcgaa

namespace Go.Proofs.Ytlaeomnacgjcgaa
open Go.RowKit

def dec : Nat → List UInt8 → List Int
  | 0, _ => []
  | _ + 1, [] => []
  | n + 1, c :: r => if (refOf (c :: r)).2 = 0 then (c.toNat : Int) :: dec n r else ((refOf (c :: r)).1 : Int) :: dec n ((c :: r).drop (refOf (c :: r)).2)
def decode (L : List UInt8) : List Int := dec L.length L

theorem dec_nil (n : Nat) : dec n [] = [] := by cases n <;> rfl
theorem dec_len : ∀ (n : Nat) (L : List UInt8), (dec n L).length ≤ n
  | 0, _ => Nat.le_refl _
  | n + 1, [] => Nat.zero_le _
  | n + 1, c :: r => by
    unfold dec
    split
    · have := dec_len n r; simp only [List.length_cons]; omega
    · have := dec_len n ((c :: r).drop (refOf (c :: r)).2); simp only [List.length_cons]; omega

theorem refOf_len (L : List UInt8) : (refOf L).2 ≤ L.length := by
  cases L with
  | nil => exact Nat.le_refl _
  | cons c R =>
    show (if c.toNat = 38 then (match semi R 5 with
      | some m => (match namedOf (R.take m) with
        | some b => (b, m + 2)
        | none => (0, 0))
      | none => (0, 0)) else ((0, 0) : Nat × Nat)).2 ≤ _
    split
    · split
      · rename_i m hm
        obtain ⟨_, S, hS⟩ := semi_spec R 5 m hm
        split
        · have hl := congrArg List.length hS
          simp only [List.length_append, List.length_cons, List.length_take] at hl
          simp only [List.length_cons]
          omega
        · exact Nat.zero_le _
      · exact Nat.zero_le _
    · exact Nat.zero_le _

theorem dec_raw (L : List UInt8) (k f : Nat) (h : k < L.length) (hf : L.length - k ≤ f) (hr : (refOf (L.drop k)).2 = 0) : ∃ f', L.length - (k + 1) ≤ f' ∧ dec f (L.drop k) = ((L.getD k 0).toNat : Int) :: dec f' (L.drop (k + 1)) := by
  obtain ⟨f', rfl⟩ : ∃ f', f = f' + 1 := ⟨f - 1, by omega⟩
  refine ⟨f', by omega, ?_⟩
  rw [drop_cons L k h] at hr ⊢
  rw [dec, if_pos hr]

theorem dec_ref (L : List UInt8) (k f : Nat) (h : k < L.length) (hf : L.length - k ≤ f) (hr : ¬ (refOf (L.drop k)).2 = 0) : ∃ f', L.length - (k + (refOf (L.drop k)).2) ≤ f' ∧ dec f (L.drop k) = ((refOf (L.drop k)).1 : Int) :: dec f' (L.drop (k + (refOf (L.drop k)).2)) := by
  obtain ⟨f', rfl⟩ : ∃ f', f = f' + 1 := ⟨f - 1, by omega⟩
  refine ⟨f', by omega, ?_⟩
  rw [← List.drop_drop]
  have e := drop_cons L k h
  rw [e] at hr ⊢
  rw [dec, if_neg hr]

theorem one_byte (w : World) (x : Int) (g : Nat) (hg : w.heap.size = g) : ∀ j u, (bcs [x])[j]? = some u → (w.alloc (.cells #[.int .u8 x] 5)).cell? ((⟨g, 0, none⟩ : Addr).add j) = some u := by
  subst hg
  intro j u hj
  have hlt : j < 1 := by have := (List.getElem?_eq_some_iff.1 hj).1; simpa [bcs] using this
  have : j = 0 := by omega
  subst this
  simp [bcs] at hj
  subst hj
  rw [Addr.add_mid]
  simp

structure Grow (w : World) (v : Value) (l : List Int) (wr : World) : Prop where
  own : wr.ownsRow w.heap.size 5 1 v l.length (bcs l)
  bl : Below w.heap.size w wr
  sz : w.heap.size ≤ wr.heap.size

theorem Grow.alloc {w wr : World} {v : Value} {l : List Int} (h : Grow w v l wr) (o : Obj) : Grow w v l (wr.alloc o) :=
  ⟨h.own.alloc o, h.bl.alloc h.sz o, by have := h.sz; simp; omega⟩
theorem Grow.app {w wr w1 : World} {v v' : Value} {l : List Int} {x : Int} (h : Grow w v l wr) (ho : w1.ownsRow w.heap.size 5 1 v' (l.length + 1) (bcs l ++ bcs [x])) (hg : wr.grownBy w1 v.ownBlock) : Grow w v' (l ++ [x]) w1 :=
  ⟨by rw [List.length_append, bcs_append]; exact ho, h.bl.grown hg h.sz (own_lo h.own), Nat.le_trans h.sz hg.size⟩

theorem l1 (x : Int) : (bcs [x]).length = 1 * 1 := rfl

set_option maxRecDepth 100000 in
set_option maxHeartbeats 2000000 in
theorem l2Decode_any (s : ByteArray) (w : World) (hs : s.size ≤ 2000) :
    Calls Try.prog 89 #[.string s] w fun e w' => ∃ v, e = .returned v ∧ Grow w v (decode s.data.toList) w' := by
  obtain ⟨L, hL⟩ : ∃ L, s.data.toList = L := ⟨_, rfl⟩
  have hl : L.length = s.size := by rw [← hL]; exact len_list s
  rw [hL]
  obtain ⟨D, hD⟩ : ∃ D, decode L = D := ⟨_, rfl⟩
  have dl : D.length ≤ s.size := by rw [← hD, ← hl]; exact dec_len _ _
  rw [hD]
  go_enter Try.func89, Try.ntmps89
  go_wp2
  go_loopw [3, 4] (fun v i wr => ∃ (k f : Nat) (out : List Int), k ≤ L.length ∧ L.length - k ≤ f ∧ out ++ dec f (L.drop k) = D ∧ i = .int .i64 k ∧ Grow w v out wr) (fun _ i _ => L.length - (intOf i).toNat)
  case atStart => exact ⟨0, L.length, [], Nat.zero_le _, Nat.le_refl _, hD, rfl, ⟨World.ownsRow_lit w #[] 0 (Nat.le_refl _) (by decide) rfl, below_new w _, by simp⟩⟩
  case round =>
    obtain ⟨k, f, out, hk, hf, hout, rfl, hG⟩ := hrel
    by_cases hlt : k < L.length
    · have ol : out.length ≤ 2000 := by have := congrArg List.length hout; rw [List.length_append] at this; omega
      have ci : (k : Int) < (s.size : Int) := by omega
      have hks : k < s.size := by omega
      have K := Hid.mk' (l2At_core s L hL k wr (by omega) hks)
      have hrl := refOf_len (L.drop k)
      have hrb := refOf_byte (L.drop k)
      rw [List.length_drop] at hrl
      have hg0 := get_list hL k hks
      have GG := Hid.mk' hG
      by_cases hr : (refOf (L.drop k)).2 = 0
      · obtain ⟨f', hf', hstep⟩ := dec_raw L k f hlt hf hr
        have HO := Hid.mk' hout
        have HS := Hid.mk' hstep
        rw [hr] at K
        obtain ⟨c, hc⟩ : ∃ c : Nat, (L.getD k 0).toNat = c := ⟨_, rfl⟩
        rw [hc] at hg0 HS
        have G1 := Hid.mk' (GG.out.alloc (.cells #[.int .u8 (c : Int)] 5))
        generalize (refOf (L.drop k)).1 = rb at *
        clear hout hstep hG hr hrl hL hc
        go_wp2_with fail
        refine K.out.mono ?_
        rintro e w1 ⟨rfl, rfl⟩
        clear K
        go_wp2_with (at_builtin; refine wpList_append_at _ rfl (.tmp 20) (.tmp 24) 22 rfl w.heap.size 5 (.int .u8 0) 1 1 Try.underlying22 Try.info5 rfl (by decide) _ _ _ rfl G1.out.own _ 1 _ (bcs [(c : Int)]) rfl (l1 _) (.inr ⟨_, rfl, one_byte w1 _ _ rfl⟩) (bcs_one _) (by unfold maxLen; omega) (by omega) G1.out.sz ?_; intro v' w2 ho hgr hat; have G2 := Hid.mk' (G1.out.app ho hgr); clear ho hgr hat)
        go_roundw
        case rel => exact ⟨k + 1, f', out ++ [(c : Int)], by omega, hf', by rw [List.append_assoc, List.singleton_append, ← HS.out]; exact HO.out, by go_num, G2.out⟩
        case measure => simp [intOf]; omega
      · obtain ⟨f', hf', hstep⟩ := dec_ref L k f hlt hf hr
        have HO := Hid.mk' hout
        have HS := Hid.mk' hstep
        have G1 := Hid.mk' (GG.out.alloc (.cells #[.int .u8 ((refOf (L.drop k)).1 : Int)] 5))
        have hz : (((refOf (L.drop k)).2 : Int) == 0) = false := by rw [beq_eq_false_iff_ne]; omega
        generalize (refOf (L.drop k)).1 = rb at *
        generalize (refOf (L.drop k)).2 = rn at *
        have hwb : IntKind.u8.wrap (rb : Int) = (rb : Int) := by rw [IntKind.wrap_u8]; omega
        clear hout hstep hG hL hg0
        go_wp2_with fail
        refine K.out.mono ?_
        rintro e w1 ⟨rfl, rfl⟩
        clear K
        go_wp2_with (at_builtin; refine wpList_append_at _ rfl (.tmp 28) (.tmp 31) 22 rfl w.heap.size 5 (.int .u8 0) 1 1 Try.underlying22 Try.info5 rfl (by decide) _ _ _ rfl G1.out.own _ 1 _ (bcs [(rb : Int)]) rfl (l1 _) (.inr ⟨_, rfl, one_byte w1 _ _ rfl⟩) (bcs_one _) (by unfold maxLen; omega) (by omega) G1.out.sz ?_; intro v' w2 ho hgr hat; have G2 := Hid.mk' (G1.out.app ho hgr); clear ho hgr hat)
        go_roundw
        case rel => exact ⟨k + rn, f', out ++ [(rb : Int)], by omega, hf', by rw [List.append_assoc, List.singleton_append, ← HS.out]; exact HO.out, by go_num, G2.out⟩
        case measure => simp [intOf]; omega
    · have ci : ¬ (k : Int) < (s.size : Int) := by omega
      have e : k = L.length := by omega
      subst e
      rw [List.drop_length, dec_nil, List.append_nil] at hout
      subst hout
      go_wp2
      go_ret
      exact ⟨_, rfl, hG⟩

end Go.Proofs.Ytlaeomnacgjcgaa

namespace Go.Proofs.Ytlaeomnacgjcgaa
open Go.RowKit

end Go.Proofs.Ytlaeomnacgjcgaa

namespace Go.Proofs.Ytlaeomnacgjcgaa
open Go.RowKit

set_option maxHeartbeats 3200000 in
theorem hasForm_any (t : TK) (a : Option Addr) (c : Nat) (w : World) :
    Calls Try.prog 63 #[.agg #[.int .i64 t.kd, .int .i64 t.by_, .string t.nm, .slice a t.at_.length c, .bool t.sh]] w fun e w' => e = .returned (.bool (tform t)) ∧ Below w.heap.size w w' := by
  have HB := Hid.mk' (below_new w (.cells #[.int .i64 t.kd, .int .i64 t.by_, .string t.nm, .slice a t.at_.length c, .bool t.sh] 89))
  by_cases k1 : 1 ≤ t.kd ∧ t.kd ≤ 4
  · have kk : t.kd = 1 ∨ t.kd = 2 ∨ t.kd = 3 ∨ t.kd = 4 := by omega
    rcases kk with e | e | e | e
    all_goals
      rw [e]
      have E := Hid.mk' e
      clear e k1
      go_enter Try.func63, Try.ntmps63
      go_wp2_with go_big_skip
    all_goals go_ret
    all_goals
      have e := E.out
      refine ⟨?_, (below_new w _)⟩
      by_cases hz : t.by_ = 0 <;> first | contradiction | (simp [tform, *])
  · have E : Hid (tform t = false) := Hid.mk' (by
      unfold tform
      rw [show (decide (1 ≤ t.kd) && decide (t.kd ≤ 4)) = false by simp; omega]
      simp)
    have n1 : ¬ t.kd = 1 := by omega
    have n2 : ¬ t.kd = 2 := by omega
    have n3 : ¬ t.kd = 3 := by omega
    have n4 : ¬ t.kd = 4 := by omega
    clear k1
    go_enter Try.func63, Try.ntmps63
    go_wp2_with go_big_skip
    go_ret
    exact ⟨by rw [E.out]; rfl, below_new w _⟩

end Go.Proofs.Ytlaeomnacgjcgaa
