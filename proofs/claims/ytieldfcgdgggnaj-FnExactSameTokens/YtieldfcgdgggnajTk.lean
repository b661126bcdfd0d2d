/- An attribute of a token: the program. -/
import Derived.Test.YtieldfcgdgggnajTj
namespace Go.Proofs.Ytieldfcgdgggnaj
open Go.RowKit
set_option linter.unusedVariables false
set_option linter.unusedSimpArgs false

theorem copyBytes_own (a : Option Addr) (c : Nat) (l : List Int) (w : World) (ha : BAt w a l) (hl : (l.length : Int) ≤ 1048576) :
    Calls Try.prog 39 #[.slice a l.length c] w fun e w' => ∃ v, e = .returned v ∧ OB w' v l ∧ In w.heap.size w'.heap.size v ∧ Below w.heap.size w w' := by
  refine (copyBytes_any a c l w ha hl).mono ?_
  rintro e w1 ⟨g, rfl, hg, hr, hb⟩
  refine ⟨_, rfl, ob_of_row rfl hr, fun k hk => ?_, hb⟩
  simp [Value.ownBlock] at hk
  subst hk
  exact ⟨hg, hr.lt⟩

set_option maxHeartbeats 3200000 in
theorem implAO_any (t : TK) (s : ByteArray) (a : Option Addr) (c : Nat) (w : World) (ha : AAt w a t.at_) (hn : (t.nm.size : Int) ≤ 1048576) (hl : (t.at_.length : Int) + asz t.at_ ≤ 1048576) :
    Calls Try.prog 20 #[.agg #[.int .i64 t.kd, .int .i64 t.by_, .string t.nm, .slice a t.at_.length c, .bool t.sh], .string s] w fun e w' => ∃ v, e = .returned (.agg #[.int .i64 (aoCode t s), v]) ∧ OB w' v (aoVal t s) ∧ In w.heap.size w'.heap.size v ∧ Below w.heap.size w w' := by
  have B0 := (below_new w (.cells #[.int .i64 t.kd, .int .i64 t.by_, .string t.nm, .slice a t.at_.length c, .bool t.sh] 29)).alloc (by simp) (.cells #[.int .i64 0, .slice none 0 0] 42)
  have HP := Hid.mk' ((row5 w 29 (.int .i64 t.kd) (.int .i64 t.by_) (.string t.nm) (.slice a t.at_.length c) (.bool t.sh)).alloc (.cells #[.int .i64 0, .slice none 0 0] 42))
  have HR := rowp2 (w.alloc (.cells #[.int .i64 t.kd, .int .i64 t.by_, .string t.nm, .slice a t.at_.length c, .bool t.sh] 29)) 42 (.int .i64 0) (.slice none 0 0)
  have z1 : (w.alloc (.cells #[.int .i64 t.kd, .int .i64 t.by_, .string t.nm, .slice a t.at_.length c, .bool t.sh] 29)).heap.size = w.heap.size + 1 := by simp
  have z2 : Hid (((w.alloc (.cells #[.int .i64 t.kd, .int .i64 t.by_, .string t.nm, .slice a t.at_.length c, .bool t.sh] 29)).alloc (.cells #[.int .i64 0, .slice none 0 0] 42)).heap.size = w.heap.size + 1 + 1) := Hid.mk' (by simp)
  rw [z1] at HR
  have HR := Hid.mk' HR
  have HA := Hid.mk' (ha.below B0)
  have HB := Hid.mk' B0
  have KF := Hid.mk' (implTF_any t a c _ HA.out hn hl)
  obtain ⟨c0, c1, c2, c3, c4, c5⟩ := cells5 HP.out
  clear ha B0 z1
  generalize hW : (w.alloc (.cells #[.int .i64 t.kd, .int .i64 t.by_, .string t.nm, .slice a t.at_.length c, .bool t.sh] 29)).alloc (.cells #[.int .i64 0, .slice none 0 0] 42) = W at *
  go_enter Try.func20, Try.ntmps20
  go_wp2_with fail
  clear hW
  refine KF.out.mono ?_
  rintro e w1 ⟨rfl, hb⟩
  have HP := Hid.mk' (rowB HP.out hb)
  have HR := Hid.mk' (rowB HR.out hb)
  have HA := Hid.mk' (HA.out.below hb)
  have HB := Hid.mk' (HB.out.trans (hb.mono HB.out.size))
  have hz : w.heap.size + 1 + 1 ≤ w1.heap.size := by have := z2.out; have := hb.size; omega
  clear hb KF z2 c0 c1 c2 c3 c4 c5
  obtain ⟨c0, c1, c2, c3, c4, c5⟩ := cells5 HP.out
  obtain ⟨r0, r1, r2⟩ := cells2 HR.out
  have fr0 := HR.out.frozen 0
  have fr1 := HR.out.frozen 1
  by_cases hf : tfault t = 0
  rotate_left
  · have hfb : (tfault t == 0) = false := by simp [hf]
    have E1 : Hid (aoCode t s = tfault t) := Hid.mk' (by unfold aoCode; rw [if_neg hf])
    have E2 : Hid (aoVal t s = []) := Hid.mk' (by unfold aoVal; rw [if_neg hf])
    have BB := Hid.mk' (below_two HB.out (c := w.heap.size + 1) (o1 := 0) (o2 := 1) (v1 := .int .i64 (tfault t)) (v2 := .slice none 0 0) (by omega))
    generalize tfault t = tf at *
    clear HA HB
    go_wp2
    refine bodyPost_ret (v := .agg #[.int .i64 tf, .slice none 0 0]) (by simp [results, Try.results20, go_sem, *]) rfl ?_
    rw [E1.out, E2.out]
    exact ⟨_, rfl, OB.none _, In.nil _ _, BB.out⟩
  · have KH := Hid.mk' (placeOf_any a c t.at_ s w1 HA.out (by omega))
    rw [hf]
    go_wp2_with fail
    refine KH.out.mono ?_
    rintro e w2 ⟨rfl, hb⟩
    have HP := Hid.mk' (rowB HP.out hb)
    have HR := Hid.mk' (rowB HR.out hb)
    have HA := Hid.mk' (HA.out.below hb)
    have HB := Hid.mk' (HB.out.trans (hb.mono HB.out.size))
    have hz : w.heap.size + 1 + 1 ≤ w2.heap.size := by have := hb.size; omega
    clear hb KH c0 c1 c2 c3 c4 c5 r0 r1 r2 fr0 fr1
    obtain ⟨c0, c1, c2, c3, c4, c5⟩ := cells5 HP.out
    obtain ⟨r0, r1, r2⟩ := cells2 HR.out
    have fr0 := HR.out.frozen 0
    have fr1 := HR.out.frozen 1
    rcases posK_lt t.at_ s with hp | ⟨k, hk, hp⟩
    · have E1 : Hid (aoCode t s = 4) := Hid.mk' (by unfold aoCode; rw [if_pos hf, hp]; rfl)
      have E2 : Hid (aoVal t s = []) := Hid.mk' (by unfold aoVal; rw [if_pos hf, hp]; rfl)
      have BB := Hid.mk' (below_two HB.out (c := w.heap.size + 1) (o1 := 0) (o2 := 1) (v1 := .int .i64 4) (v2 := .slice none 0 0) (by omega))
      rw [hp]
      clear HA HB hp
      go_wp2
      refine bodyPost_ret (v := .agg #[.int .i64 4, .slice none 0 0]) (by simp [results, Try.results20, go_sem, *]) rfl ?_
      rw [E1.out, E2.out]
      exact ⟨_, rfl, OB.none _, In.nil _ _, BB.out⟩
    · have E1 : Hid (aoCode t s = 0) := Hid.mk' (by unfold aoCode; rw [if_pos hf, hp, if_pos (by omega)])
      have E2 : Hid (aoVal t s = (atK t.at_ k).vl) := Hid.mk' (by unfold aoVal; rw [if_pos hf, hp, if_pos (by omega), Int.toNat_natCast])
      rw [hp]
      rcases HA.out with h0 | ⟨b, o, rfl, hbs, hcl⟩
      · exact absurd hk (by rw [h0]; exact Nat.not_lt_zero _)
      obtain ⟨h1, p, d, h2, h3⟩ := hcl k hk
      have st := asz_take t.at_ k hk
      have sl := asz_le t.at_ (k + 1)
      have KC := Hid.mk' (copyBytes_own p d (atK t.at_ k).vl w2 h3 (by omega))
      have ki : (k : Int) < (t.at_.length : Int) := by omega
      have kn : ¬ (k : Int) < 0 := by omega
      clear hcl h3 st sl hp HA
      go_wp2_with fail
      refine KC.out.mono ?_
      rintro e w3 ⟨v, rfl, ob, hin, hb⟩
      have HR := Hid.mk' (rowB HR.out hb)
      have BB := Hid.mk' (below_two (HB.out.trans (hb.mono HB.out.size)) (c := w.heap.size + 1) (o1 := 0) (o2 := 1) (v1 := .int .i64 0) (v2 := v) (by omega))
      have OO := Hid.mk' (ob.kept hin (kept2 w3 (w.heap.size + 1) 0 1 (.int .i64 0) v) (.inr (by omega)))
      have II := Hid.mk' (hin.mono (by omega) (Nat.le_refl _) : In w.heap.size w3.heap.size v)
      obtain ⟨q, cq, rfl, _⟩ := ob.len
      have hz2 := hb.size
      clear ob hin hb KC HB r0 r1 r2 fr0 fr1 c0 c1 c2 c3 c4 c5 h1 h2
      obtain ⟨r0, r1, r2⟩ := cells2 HR.out
      have fr0 := HR.out.frozen 0
      have fr1 := HR.out.frozen 1
      go_wp2
      refine bodyPost_ret (v := .agg #[.int .i64 0, .slice q (atK t.at_ k).vl.length cq]) (by simp [results, Try.results20, go_sem, *]) rfl ?_
      rw [E1.out, E2.out]
      exact ⟨_, rfl, OO.out, by simpa using II.out, BB.out⟩

end Go.Proofs.Ytieldfcgdgggnaj
