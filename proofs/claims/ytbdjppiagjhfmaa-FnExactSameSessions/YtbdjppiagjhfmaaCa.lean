/- Lists of texts that lie in memory: measured, copied, told to be the same; policies. -/
import Derived.Test.YtbdjppiagjhfmaaWb
import Derived.Test.YtbdjppiagjhfmaaOwn
namespace Go.Proofs.Ytbdjppiagjhfmaa
open Go.RowKit
set_option linter.unusedVariables false
set_option linter.unusedSimpArgs false

/-- The k-th of texts. -/
def sK (l : List ByteArray) (k : Nat) : ByteArray := l.getD k ⟨#[]⟩

/-- The k-th of texts, as a value. -/
def sv (l : List ByteArray) (k : Nat) : Value := .string (sK l k)

/-- Texts lie at an address. -/
def StAt (w : World) (a : Option Addr) (l : List ByteArray) : Prop :=
  l = [] ∨ ∃ b o, a = some ⟨b, o, none⟩ ∧ b < w.heap.size ∧ ∀ k, k < l.length → w.cell? ⟨b, o + k, none⟩ = some (.string (sK l k))

theorem StAt.below {w w' : World} {a : Option Addr} {l : List ByteArray} (h : StAt w a l) (hb : Below w.heap.size w w') : StAt w' a l := by
  rcases h with h | ⟨b, o, e, hs, hc⟩
  · exact .inl h
  · exact .inr ⟨b, o, e, Nat.lt_of_lt_of_le hs hb.size, fun k hk => (hb.cell hs).trans (hc k hk)⟩

theorem StAt.of_row {w : World} {b : Nat} {l : List ByteArray} (h : w.rowIs b 9 l.length (sv l)) : StAt w (some ⟨b, 0, none⟩) l :=
  .inr ⟨b, 0, rfl, h.lt, fun k hk => by rw [Nat.zero_add]; exact h.cell hk⟩

/-- The bytes of texts. -/
def ssz : List ByteArray → Nat
  | [] => 0
  | x :: r => x.size + ssz r

theorem ssz_take (l : List ByteArray) : ∀ k, k < l.length → ssz (l.take (k + 1)) = ssz (l.take k) + (sK l k).size := by
  induction l with
  | nil => intro k h; exact absurd h (Nat.not_lt_zero _)
  | cons x r ih =>
    intro k hk
    cases k with
    | zero => simp [ssz, sK]
    | succ k =>
      have := ih k (by simpa using hk)
      simp only [List.take_succ_cons, ssz]
      rw [this]
      have e : sK (x :: r) (k + 1) = sK r k := by simp [sK]
      rw [e]; omega

theorem ssz_le (l : List ByteArray) (k : Nat) : ssz (l.take k) ≤ ssz l := by
  induction l generalizing k with
  | nil => simp [ssz]
  | cons x r ih =>
    cases k with
    | zero => simp [ssz]
    | succ k => simp only [List.take_succ_cons, ssz]; have := ih k; omega

theorem sK_le (l : List ByteArray) (k : Nat) (hk : k < l.length) : (sK l k).size ≤ ssz l := by
  have := ssz_take l k hk
  have := ssz_le l (k + 1)
  omega

/-- The widest that a text can be. -/
def WideS (l : List ByteArray) : Prop := ∀ k, k < l.length → ((sK l k).size : Int) ≤ 9223372036854775807

set_option maxHeartbeats 800000 in
theorem szStringS_any (a : Option Addr) (c : Nat) (l : List ByteArray) (z : Int) (w : World) (ha : StAt w a l) (hw : WideS l) (h0 : 0 ≤ z) (h1 : z ≤ 1048576) (hl : (l.length : Int) ≤ 9223372036854775807) :
    Calls Try.prog 57 #[.slice a l.length c, .int .i64 z] w fun e w' => e = .returned (.int .i64 (if z < (l.length : Int) + ssz l then -1 else z - l.length - ssz l)) ∧ Below w.heap.size w w' := by
  by_cases g1 : z < (l.length : Int)
  · rw [if_pos (by omega)]
    go_enter Try.func57, Try.ntmps57
    go_wp2
    go_ret
    exact ⟨rfl, Below.refl _ _⟩
  have HA := Hid.mk' ha
  have HW := Hid.mk' hw
  clear ha hw
  go_enter Try.func57, Try.ntmps57
  go_wp2
  go_loopw [1, 5] (fun x i wr => ∃ k : Nat, k ≤ l.length ∧ i = .int .i64 k ∧ x = .int .i64 (z - (l.length : Int) - (ssz (l.take k) : Int)) ∧ (ssz (l.take k) : Int) ≤ z - l.length ∧ Below w.heap.size w wr) (fun _ i _ => l.length - (intOf i).toNat)
  case atStart => exact ⟨0, Nat.zero_le _, rfl, by simp [ssz], by simp [ssz]; omega, Below.refl _ _⟩
  case round =>
    obtain ⟨k, hk, rfl, rfl, hz, hbl⟩ := hrel
    have HB := Hid.mk' hbl
    clear hbl
    by_cases hlt : k < l.length
    · have ci : (k : Int) < (l.length : Int) := by omega
      rcases HA.out.below HB.out with ha | ⟨b, o, rfl, hbs, hc⟩
      · exact absurd hlt (by rw [ha]; exact Nat.not_lt_zero _)
      have q1 := hc k hlt
      have w1 := HW.out k hlt
      have st := ssz_take l k hlt
      generalize hn1 : sK l k = nm at *
      generalize hy : z - (l.length : Int) - (ssz (l.take k) : Int) = y at *
      have y0 : 0 ≤ y := by omega
      have y1 : y ≤ 1048576 := by omega
      clear hc
      by_cases g2 : y < (nm.size : Int)
      · have gz : z < (l.length : Int) + ssz l := by have := ssz_le l (k + 1); omega
        have gy : y - (nm.size : Int) < 0 := by omega
        go_wp2
        go_ret
        exact ⟨by first | rfl | (rw [if_pos gz]; rfl), HB.out⟩
      · have gy : ¬ (y - (nm.size : Int) < 0) := by omega
        go_wp2
        go_roundw
        case rel => exact ⟨k + 1, by omega, by go_num, by congr 1; omega, by omega, HB.out⟩
        case measure => simp [intOf]; omega
    · have ci : ¬ (k : Int) < (l.length : Int) := by omega
      have e : k = l.length := by omega
      subst e
      rw [List.take_length] at hz
      go_wp2
      go_ret
      exact ⟨by first | rfl | (simp; done) | (rw [if_neg (by omega)]; simp), HB.out⟩

theorem Try.info9 : (Try.prog.info? 9).map (fun i => (i.zero, i.size, i.bytes)) = some (some (.string ⟨#[]⟩), 1, 16) := by kernel_rfl

set_option maxHeartbeats 800000 in
theorem toStringS_any (a : Option Addr) (c : Nat) (l : List ByteArray) (w : World) (ha : StAt w a l) (hl : (l.length : Int) ≤ 1048576) :
    Calls Try.prog 60 #[.slice a l.length c] w fun e w' => ∃ b, e = .returned (.slice (some ⟨b, 0, none⟩) l.length l.length) ∧ w.heap.size ≤ b ∧ w'.rowIs b 9 l.length (sv l) ∧ Below w.heap.size w w' := by
  have hmk := run_make_row' (P := Try.prog) 23 9 (.string ⟨#[]⟩) 16 Try.underlying23 Try.info9 rfl .i64 .i64 l.length (by omega) (by omega)
  go_enter Try.func60, Try.ntmps60
  go_wp2
  go_loopw [4] (fun i wr => ∃ k : Nat, k ≤ l.length ∧ i = .int .i64 k ∧ wr.rowIs w.heap.size 9 l.length (fun j => if j < k then sv l j else .string ⟨#[]⟩) ∧ Below w.heap.size w wr) (fun i _ => l.length - (intOf i).toNat)
  case atStart => exact ⟨0, Nat.zero_le _, rfl, (World.rowIs_made w (.string ⟨#[]⟩) _ 9).congr (fun j _ => by simp), (Below.refl _ _).alloc (Nat.le_refl _) _⟩
  case round =>
    obtain ⟨k, hk, rfl, hrow, hbl⟩ := hrel
    by_cases hlt : k < l.length
    · have ci : (k : Int) < (l.length : Int) := by omega
      rcases ha with ha | ⟨b, o, rfl, hbs, hc⟩
      · exact absurd hlt (by rw [ha]; exact Nat.not_lt_zero _)
      have h1 := (hbl.cell hbs).trans (hc k hlt)
      obtain ⟨v0, h2⟩ : ∃ v, wr.cell? ⟨w.heap.size, k, none⟩ = some v := ⟨_, hrow.cell hlt⟩
      have h3 := hrow.frozen k
      have R1 := Hid.mk' ((hrow.set k (.string (sK l k))).congr (g := fun j => if j < k + 1 then sv l j else .string ⟨#[]⟩) (fun j _ => by
        by_cases e : j = k
        · subst e; simp [sv]
        · by_cases h : j < k
          · simp [e, h, show j < k + 1 by omega]
          · simp [e, h, show ¬ j < k + 1 by omega]))
      have R2 := Hid.mk' (hbl.setCell (p := ⟨w.heap.size, k, none⟩) (Nat.le_refl _) (.string (sK l k)))
      clear hrow hbl hmk hc
      go_wp2
      go_roundw
      case rel => exact ⟨k + 1, by omega, by go_num, R1.out, R2.out⟩
      case measure => simp [intOf]; omega
    · have ci : ¬ (k : Int) < (l.length : Int) := by omega
      have e : k = l.length := by omega
      subst e
      have R1 := Hid.mk' (hrow.congr (g := sv l) (fun j hj => by rw [if_pos hj]))
      have R2 := Hid.mk' hbl
      clear hrow hbl hmk
      go_wp2
      go_ret
      exact ⟨_, rfl, Nat.le_refl _, R1.out, R2.out⟩

set_option maxHeartbeats 1600000 in
theorem eqStringS_any (a b : Option Addr) (c d : Nat) (l : List ByteArray) (w : World) (ha : StAt w a l) (hb : StAt w b l) (hl : (l.length : Int) ≤ 1048576) :
    Calls Try.prog 63 #[.slice a l.length c, .slice b l.length d] w fun e w' => e = .returned (.bool true) ∧ Below w.heap.size w w' := by
  have HA := Hid.mk' ha
  have HB := Hid.mk' hb
  clear ha hb
  go_enter Try.func63, Try.ntmps63
  go_wp2
  go_loopw [5] (fun i wr => ∃ k : Nat, k ≤ l.length ∧ i = .int .i64 k ∧ Below w.heap.size w wr) (fun i _ => l.length - (intOf i).toNat)
  case atStart => exact ⟨0, Nat.zero_le _, rfl, Below.refl _ _⟩
  case round =>
    obtain ⟨k, hk, rfl, hbl⟩ := hrel
    by_cases hlt : k < l.length
    · have ci : (k : Int) < (l.length : Int) := by omega
      rcases HA.out.below hbl with ha | ⟨b1, o1, rfl, s1, hc1⟩
      · exact absurd hlt (by rw [ha]; exact Nat.not_lt_zero _)
      rcases HB.out.below hbl with hb | ⟨b2, o2, rfl, s2, hc2⟩
      · exact absurd hlt (by rw [hb]; exact Nat.not_lt_zero _)
      have h1 := hc1 k hlt
      have h2 := hc2 k hlt
      have R2 := Hid.mk' hbl
      clear hbl hc1 hc2
      go_wp2
      go_quiet (fail)
      go_wp2
      go_roundw
      case rel => exact ⟨k + 1, by omega, by go_num, below_drewN R2.out _⟩
      case measure => simp [intOf]; omega
    · have ci : ¬ (k : Int) < (l.length : Int) := by omega
      go_wp2
      go_ret
      exact ⟨rfl, hbl⟩

/-- A policy: three lists of words. -/
structure PO where
  tg : List ByteArray
  at_ : List ByteArray
  sc : List ByteArray

def psz (p : PO) : Nat := p.tg.length + ssz p.tg + p.at_.length + ssz p.at_ + p.sc.length + ssz p.sc

/-- A policy lies in memory. -/
def POAt (w : World) (a b c : Option Addr) (p : PO) : Prop := StAt w a p.tg ∧ StAt w b p.at_ ∧ StAt w c p.sc

theorem POAt.below {w w' : World} {a b c : Option Addr} {p : PO} (h : POAt w a b c p) (hb : Below w.heap.size w w') : POAt w' a b c p := ⟨h.1.below hb, h.2.1.below hb, h.2.2.below hb⟩

def WideP (p : PO) : Prop := WideS p.tg ∧ WideS p.at_ ∧ WideS p.sc ∧ (p.tg.length : Int) ≤ 9223372036854775807 ∧ (p.at_.length : Int) ≤ 9223372036854775807 ∧ (p.sc.length : Int) ≤ 9223372036854775807

theorem cellsP {w : World} {g : Nat} {ty : TypeId} {x y z : Value} (h : w.rowIs g ty 3 (r3 x y z)) : w.cell? ⟨g, 0, none⟩ = some x ∧ w.cell? ⟨g, 1, none⟩ = some y ∧ w.cell? ⟨g, 2, none⟩ = some z ∧ g < w.heap.size :=
  ⟨h.cell (by omega), h.cell (by omega), h.cell (by omega), h.lt⟩

set_option maxHeartbeats 1600000 in
theorem szPolicy_any (p : PO) (a b c : Option Addr) (n1 n2 n3 : Nat) (w : World) (ha : POAt w a b c p) (hw : WideP p) :
    Calls Try.prog 29 #[.agg #[.slice a p.tg.length n1, .slice b p.at_.length n2, .slice c p.sc.length n3], .int .i64 1048576] w fun e w' => e = .returned (.int .i64 (if 1048576 < (psz p : Int) then -1 else 1048576 - psz p)) ∧ Below w.heap.size w w' := by
  have N0 := below_new w (.cells #[.slice a p.tg.length n1, .slice b p.at_.length n2, .slice c p.sc.length n3] 25)
  have HP := Hid.mk' (row3 w 25 (.slice a p.tg.length n1) (.slice b p.at_.length n2) (.slice c p.sc.length n3))
  have HA := Hid.mk' (ha.below N0)
  have HW := Hid.mk' hw
  have HB := Hid.mk' N0
  have hps : psz p = p.tg.length + ssz p.tg + p.at_.length + ssz p.at_ + p.sc.length + ssz p.sc := rfl
  have PS := Hid.mk' hps
  clear ha hw N0 hps
  generalize psz p = ps at *
  have K1 := szStringS_any a n1 p.tg 1048576 _ HA.out.1 HW.out.1 (by omega) (by omega) HW.out.2.2.2.1
  generalize hW : w.alloc (.cells #[.slice a p.tg.length n1, .slice b p.at_.length n2, .slice c p.sc.length n3] 25) = W at *
  obtain ⟨x0, x1, x2, x3⟩ := cellsP HP.out
  by_cases g1 : 1048576 < (p.tg.length : Int) + ssz p.tg
  · rw [if_pos g1] at K1
    rw [if_pos (by have := PS.out; omega)]
    have K1 := Hid.mk' K1
    go_enter Try.func29, Try.ntmps29
    go_wp2_with fail
    refine K1.out.mono ?_
    rintro e w1 ⟨rfl, hb⟩
    have HB := Hid.mk' (HB.out.trans (hb.mono HB.out.size))
    clear hb K1
    go_wp2
    go_ret
    exact ⟨rfl, HB.out⟩
  rw [if_neg g1] at K1
  have K1 := Hid.mk' K1
  have gy1 : ¬ (1048576 - (p.tg.length : Int) - ssz p.tg < 0) := by omega
  go_enter Try.func29, Try.ntmps29
  go_wp2_with fail
  clear hW
  refine K1.out.mono ?_
  rintro e w1 ⟨rfl, hb⟩
  have HP := Hid.mk' (rowB HP.out hb)
  have HA := Hid.mk' (HA.out.below hb)
  have HB := Hid.mk' (HB.out.trans (hb.mono HB.out.size))
  have K2 := szStringS_any b n2 p.at_ (1048576 - (p.tg.length : Int) - ssz p.tg) w1 HA.out.2.1 HW.out.2.1 (by omega) (by omega) HW.out.2.2.2.2.1
  clear hb K1 x0 x1 x2 x3
  obtain ⟨x0, x1, x2, x3⟩ := cellsP HP.out
  by_cases g2 : 1048576 - (p.tg.length : Int) - ssz p.tg < (p.at_.length : Int) + ssz p.at_
  · rw [if_pos g2] at K2
    have gp : 1048576 < (ps : Int) := by have := PS.out; omega
    have K2 := Hid.mk' K2
    go_wp2_with fail
    refine K2.out.mono ?_
    rintro e w2 ⟨rfl, hb⟩
    have HB := Hid.mk' (HB.out.trans (hb.mono HB.out.size))
    clear hb K2
    go_wp2
    go_ret
    exact ⟨by first | rfl | (rw [if_pos gp]; rfl), HB.out⟩
  rw [if_neg g2] at K2
  have K2 := Hid.mk' K2
  have gy2 : ¬ (1048576 - (p.tg.length : Int) - ssz p.tg - p.at_.length - ssz p.at_ < 0) := by omega
  go_wp2_with fail
  refine K2.out.mono ?_
  rintro e w2 ⟨rfl, hb⟩
  have HP := Hid.mk' (rowB HP.out hb)
  have HA := Hid.mk' (HA.out.below hb)
  have HB := Hid.mk' (HB.out.trans (hb.mono HB.out.size))
  have K3 := szStringS_any c n3 p.sc (1048576 - (p.tg.length : Int) - ssz p.tg - p.at_.length - ssz p.at_) w2 HA.out.2.2 HW.out.2.2.1 (by omega) (by omega) HW.out.2.2.2.2.2
  clear hb K2 x0 x1 x2 x3
  obtain ⟨x0, x1, x2, x3⟩ := cellsP HP.out
  by_cases g3 : 1048576 - (p.tg.length : Int) - ssz p.tg - p.at_.length - ssz p.at_ < (p.sc.length : Int) + ssz p.sc
  · rw [if_pos g3] at K3
    have gp : 1048576 < (ps : Int) := by have := PS.out; omega
    have K3 := Hid.mk' K3
    go_wp2_with fail
    refine K3.out.mono ?_
    rintro e w3 ⟨rfl, hb⟩
    have HB := Hid.mk' (HB.out.trans (hb.mono HB.out.size))
    clear hb K3
    go_wp2
    go_ret
    exact ⟨by first | rfl | (rw [if_pos gp]; rfl), HB.out⟩
  rw [if_neg g3] at K3
  have gp : ¬ 1048576 < (ps : Int) := by have := PS.out; omega
  have K3 := Hid.mk' K3
  have gy3 : ¬ (1048576 - (p.tg.length : Int) - ssz p.tg - p.at_.length - ssz p.at_ - p.sc.length - ssz p.sc < 0) := by omega
  go_wp2_with fail
  refine K3.out.mono ?_
  rintro e w3 ⟨rfl, hb⟩
  have HB := Hid.mk' (HB.out.trans (hb.mono HB.out.size))
  clear hb K3
  go_wp2
  go_ret
  exact ⟨congrArg (fun x => Ending.returned (Value.int .i64 x)) (show 1048576 - (p.tg.length : Int) - ssz p.tg - p.at_.length - ssz p.at_ - p.sc.length - ssz p.sc = 1048576 - (ps : Int) by have := PS.out; omega), HB.out⟩

/-- A policy of one's own: three rows. -/
def PX (lo g1 g2 g3 : Nat) (p : PO) (w : World) : Prop := lo ≤ g1 ∧ g1 < g2 ∧ g2 < g3 ∧ w.rowIs g1 9 p.tg.length (sv p.tg) ∧ w.rowIs g2 9 p.at_.length (sv p.at_) ∧ w.rowIs g3 9 p.sc.length (sv p.sc)

theorem PX.below {lo g1 g2 g3 : Nat} {p : PO} {w w' : World} (h : PX lo g1 g2 g3 p w) (hb : Below w.heap.size w w') : PX lo g1 g2 g3 p w' :=
  ⟨h.1, h.2.1, h.2.2.1, rowB h.2.2.2.1 hb, rowB h.2.2.2.2.1 hb, rowB h.2.2.2.2.2 hb⟩

theorem PX.at {lo g1 g2 g3 : Nat} {p : PO} {w : World} (h : PX lo g1 g2 g3 p w) : POAt w (some ⟨g1, 0, none⟩) (some ⟨g2, 0, none⟩) (some ⟨g3, 0, none⟩) p :=
  ⟨.of_row h.2.2.2.1, .of_row h.2.2.2.2.1, .of_row h.2.2.2.2.2⟩

end Go.Proofs.Ytbdjppiagjhfmaa
