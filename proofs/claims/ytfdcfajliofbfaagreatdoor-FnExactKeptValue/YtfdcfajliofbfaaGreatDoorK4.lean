/- KeptValue, both sides: what is kept of a value, to be read. -/
import Derived.Test.YtfdcfajliofbfaaGreatDoorV1
import Derived.Test.YtfdcfajliofbfaaGreatDoorBj
import Derived.Test.YtfdcfajliofbfaaGreatDoorV2
import Derived.Test.YtfdcfajliofbfaaGreatDoorK3
import Derived.Lib.ConvBytes
import Derived.Lib.AtoiErrMem
namespace Go.Proofs.YtfdcfajliofbfaaGreatDoor
open Go.RowKit Go.Maps
set_option linter.unusedVariables false
set_option linter.unusedSimpArgs false

def isW (n : ByteArray) : Bool := n.toList == [119, 105, 100, 116, 104]
def isT (n : ByteArray) : Bool := n.toList == [116, 105, 116, 108, 101]
def isHr (n : ByteArray) : Bool := n.toList == [104, 114, 101, 102]
def isSr (n : ByteArray) : Bool := n.toList == [115, 114, 99]

/-- A text's bytes. -/
def bytesL (s : ByteArray) : List Int := s.data.toList.map (fun b => (b.toNat : Int))

theorem bytesL_len (s : ByteArray) : (bytesL s).length = s.size := by unfold bytesL; rw [List.length_map, Array.length_toList]; rfl

theorem bytesL_at (s : ByteArray) (j : Nat) (hj : j < s.size) : (bytesL s).getD j 0 = ((s.data.toList.getD j 0).toNat : Int) := by
  have h : j < s.data.toList.length := by rw [Array.length_toList]; exact hj
  unfold bytesL
  rw [List.getD_eq_getElem?_getD, List.getD_eq_getElem?_getD, List.getElem?_map, List.getElem?_eq_getElem h]
  rfl

theorem bytes_at (w : World) (s : ByteArray) : BAt (Lib.bytesWorld w 5 s) (some ⟨w.heap.size, 0, none⟩) (bytesL s) := by
  by_cases h : s.size = 0
  · left
    exact List.eq_nil_of_length_eq_zero (by rw [bytesL_len]; exact h)
  · refine .inr ⟨_, _, rfl, by rw [Lib.bytesWorld_size]; omega, fun k hk => ?_⟩
    rw [bytesL_len] at hk
    rw [Nat.zero_add, Lib.bytesWorld_cell w 5 s k hk]
    unfold bv
    rw [bytesL_at s k hk]

/-- A link that may be. -/
def urlB (p : PO) (l : List Int) : Bool := !toldB l || (hasL schemesL (strS (schS l)) && hasL p.sc (strS (schS l)))

/-- What KeptValue answers where the policy has no fault. -/
def kvF (p : PO) (n : ByteArray) (l : List Int) : Int × List Int :=
  if (hasL p.at_ n && hasL attrsL n) = true then
    (if isW n = true then (wtC (strS l), bytesL (wtT (strS l)))
     else if clB l = true then (if (!isT n && !urlB p l) = true then (7, []) else (0, l)) else (5, []))
  else (4, [])

theorem kv_none {p : PO} {n : ByteArray} {l : List Int} (h : (hasL p.at_ n && hasL attrsL n) = false) : kvF p n l = (4, []) := by unfold kvF; rw [h]; rfl
theorem kv_width {p : PO} {n : ByteArray} {l : List Int} (h : (hasL p.at_ n && hasL attrsL n) = true) (hw : isW n = true) : kvF p n l = (wtC (strS l), bytesL (wtT (strS l))) := by unfold kvF; rw [if_pos h, if_pos hw]
theorem kv_text {p : PO} {n : ByteArray} {l : List Int} (h : (hasL p.at_ n && hasL attrsL n) = true) (hw : isW n = false) (hc : clB l = false) : kvF p n l = (5, []) := by unfold kvF; rw [if_pos h, hw, hc]; rfl
theorem kv_state {p : PO} {n : ByteArray} {l : List Int} (h : (hasL p.at_ n && hasL attrsL n) = true) (hw : isW n = false) (hc : clB l = true) (hs : (!isT n && !urlB p l) = true) : kvF p n l = (7, []) := by unfold kvF; rw [if_pos h, hw, hc, hs]; rfl
theorem kv_same {p : PO} {n : ByteArray} {l : List Int} (h : (hasL p.at_ n && hasL attrsL n) = true) (hw : isW n = false) (hc : clB l = true) (hs : (!isT n && !urlB p l) = false) : kvF p n l = (0, l) := by unfold kvF; rw [if_pos h, hw, hc, hs]; rfl

theorem clB_len {l : List Int} (h : clB l = true) : l.length ≤ 8 := by
  unfold clB at h
  rw [Bool.and_eq_true, decide_eq_true_eq] at h
  exact h.1

theorem name_of {n : ByteArray} (h : hasL attrsL n = true) (hw : isW n = false) : isT n = !(isHr n || isSr n) := by
  unfold hasL attrsL at h
  simp only [List.any_cons, List.any_nil, Bool.or_false, Bool.or_eq_true] at h
  unfold isT isHr isSr
  unfold isW at hw
  have e1 : (⟨#[104, 114, 101, 102]⟩ : ByteArray).toList = [104, 114, 101, 102] := by rw [ByteArray.toList_eq]
  have e2 : (⟨#[115, 114, 99]⟩ : ByteArray).toList = [115, 114, 99] := by rw [ByteArray.toList_eq]
  have e3 : (⟨#[116, 105, 116, 108, 101]⟩ : ByteArray).toList = [116, 105, 116, 108, 101] := by rw [ByteArray.toList_eq]
  have e4 : (⟨#[119, 105, 100, 116, 104]⟩ : ByteArray).toList = [119, 105, 100, 116, 104] := by rw [ByteArray.toList_eq]
  rw [e1, e2, e3, e4] at h
  rcases h with h | h | h | h
  · rw [beq_iff_eq] at h; rw [← h]; decide
  · rw [beq_iff_eq] at h; rw [← h]; decide
  · rw [beq_iff_eq] at h; rw [← h]; decide
  · rw [beq_iff_eq] at h; rw [← h] at hw; exact absurd hw (by decide)

set_option maxHeartbeats 1600000 in
theorem l8Url_any (p : PO) (g : Nat) (a b c : Option Addr) (n1 n2 n3 : Nat) (q : Option Addr) (d : Nat) (l : List Int) (w : World) (hr : w.rowIs g 35 3 (r3 (.slice a p.tg.length n1) (.slice b p.at_.length n2) (.slice c p.sc.length n3))) (ha : POAt w a b c p) (hp : (psz p : Int) ≤ 1048576) (hb : BAt w q l) (hu : ∀ k, k < l.length → 0 ≤ l.getD k 0 ∧ l.getD k 0 ≤ 255) (hl : (l.length : Int) ≤ 1048576) :
    Calls Tryz.prog 92 #[.pointer (some ⟨g, 0, none⟩), .slice q l.length d] w fun e w' => e = .returned (.bool (urlB p l)) ∧ Below w.heap.size w w' := by
  unfold psz at hp
  have KT := l8Told_any q d l w hb hl
  have KS := Hid.mk' (l8Scheme_any q d l w hb hu hl)
  have HR := Hid.mk' hr
  have HA := Hid.mk' ha
  clear hr ha hb hu
  unfold urlB
  cases ht : toldB l
  · rw [ht] at KT
    have KT := Hid.mk' KT
    go_enter Tryz.func92, Tryz.ntmps92
    go_wp2_with fail
    refine KT.out.mono ?_
    rintro e w1 ⟨rfl, hw⟩
    obtain rfl := hw.symm
    go_wp2
    go_ret
    exact ⟨rfl, Below.refl _ _⟩
  · rw [ht] at KT
    have KT := Hid.mk' KT
    generalize strS (schS l) = S at *
    go_enter Tryz.func92, Tryz.ntmps92
    go_wp2_with fail
    refine KT.out.mono ?_
    rintro e w1 ⟨rfl, hw⟩
    obtain rfl := hw.symm
    go_wp2_with fail
    refine KS.out.mono ?_
    rintro e w1 ⟨rfl, hb⟩
    have NB := below_new w1 (.cells #[.string ⟨#[104, 116, 116, 112]⟩, .string ⟨#[104, 116, 116, 112, 115]⟩, .string ⟨#[109, 97, 105, 108, 116, 111]⟩] 9)
    have LR := lit_row w1 #[.string ⟨#[104, 116, 116, 112]⟩, .string ⟨#[104, 116, 116, 112, 115]⟩, .string ⟨#[109, 97, 105, 108, 116, 111]⟩] schemesL rfl (fun i hi => by
      have : i = 0 ∨ i = 1 ∨ i = 2 := by simp [schemesL] at hi; omega
      rcases this with rfl | rfl | rfl <;> rfl)
    have B2 := hb.trans (NB.mono hb.size)
    have HB := Hid.mk' B2
    have HR := Hid.mk' (rowB HR.out B2)
    have K2 := Hid.mk' (l8Has_any c n3 p.sc S _ (HA.out.below B2).2.2 (by omega))
    have K1 := l8Has_any (some ⟨w1.heap.size, 0, none⟩) 3 schemesL S _ (.of_row LR) (by decide)
    clear hb NB LR B2 KS KT
    generalize hW : w1.alloc (.cells #[.string ⟨#[104, 116, 116, 112]⟩, .string ⟨#[104, 116, 116, 112, 115]⟩, .string ⟨#[109, 97, 105, 108, 116, 111]⟩] 9) = W at *
    obtain ⟨x0, x1, x2, x3⟩ := cellsP HR.out
    cases h1 : hasL schemesL S
    · rw [h1] at K1
      have K1 := Hid.mk' K1
      go_wp2_with fail
      clear hW
      refine K1.out.mono ?_
      rintro e w2 ⟨rfl, hw⟩
      obtain rfl := hw.symm
      go_wp2
      go_ret
      exact ⟨by simp [h1], HB.out⟩
    · rw [h1] at K1
      have K1 := Hid.mk' K1
      go_wp2_with fail
      clear hW
      refine K1.out.mono ?_
      rintro e w2 ⟨rfl, hw⟩
      obtain rfl := hw.symm
      go_wp2_with fail
      refine K2.out.mono ?_
      rintro e w2 ⟨rfl, hw⟩
      obtain rfl := hw.symm
      go_wp2
      go_ret
      exact ⟨by simp [h1], HB.out⟩

end Go.Proofs.YtfdcfajliofbfaaGreatDoor

/- KeptValue: the model's side, to be read. -/
namespace Go.Proofs.YtfdcfajliofbfaaGreatDoor
open Go.RowKit
set_option linter.unusedVariables false
set_option linter.unusedSimpArgs false

/-- What l8Kept leaves. -/
def KvP (p : PO) (n : ByteArray) (l : List Int) (w : World) (e : Ending) (w' : World) : Prop := ∃ v c', e = .returned (.tuple #[.slice v (kvF p n l).2.length c', .int .i64 (kvF p n l).1]) ∧ BAt w' v (kvF p n l).2 ∧ (∀ b o, v = some ⟨b, o, none⟩ → w.heap.size ≤ b) ∧ Below w.heap.size w w'

theorem kvP_nil {p : PO} {n : ByteArray} {l : List Int} {c : Int} {w w' : World} (h : kvF p n l = (c, [])) (hb : Below w.heap.size w w') : KvP p n l w (.returned (.tuple #[.slice none 0 0, .int .i64 c])) w' :=
  ⟨none, 0, by rw [h]; rfl, by rw [h]; exact .inl rfl, (fun b o e => by cases e), hb⟩

set_option maxRecDepth 100000 in
set_option maxHeartbeats 3200000 in
theorem l8Kept_any (p : PO) (g : Nat) (a b c : Option Addr) (n1 n2 n3 : Nat) (n : ByteArray) (q : Option Addr) (d : Nat) (l : List Int) (w : World) (hr : w.rowIs g 35 3 (r3 (.slice a p.tg.length n1) (.slice b p.at_.length n2) (.slice c p.sc.length n3))) (ha : POAt w a b c p) (hp : (psz p : Int) ≤ 1048576) (hb : BAt w q l) (hu : ∀ k, k < l.length → 0 ≤ l.getD k 0 ∧ l.getD k 0 ≤ 255) (hl : (l.length : Int) ≤ 1048576) :
    Calls Tryz.prog 51 #[.pointer (some ⟨g, 0, none⟩), .string n, .slice q l.length d] w fun e w' => KvP p n l w e w' := by
  have hp2 := hp
  unfold psz at hp2
  have NB := below_new w (.cells #[.string ⟨#[104, 114, 101, 102]⟩, .string ⟨#[115, 114, 99]⟩, .string ⟨#[116, 105, 116, 108, 101]⟩, .string ⟨#[119, 105, 100, 116, 104]⟩] 9)
  have LR := lit_row w #[.string ⟨#[104, 114, 101, 102]⟩, .string ⟨#[115, 114, 99]⟩, .string ⟨#[116, 105, 116, 108, 101]⟩, .string ⟨#[119, 105, 100, 116, 104]⟩] attrsL rfl (fun i hi => by
    have : i = 0 ∨ i = 1 ∨ i = 2 ∨ i = 3 := by simp [attrsL] at hi; omega
    rcases this with rfl | rfl | rfl | rfl <;> rfl)
  have K1 := l8Has_any (some ⟨w.heap.size, 0, none⟩) 4 attrsL n _ (.of_row LR) (by decide)
  have K2 := l8Has_any b n2 p.at_ n _ (ha.below NB).2.1 (by omega)
  have HB := Hid.mk' NB
  have HR := Hid.mk' (rowB hr NB)
  have HA := Hid.mk' (ha.below NB)
  have HV := Hid.mk' (hb.below NB)
  have HU := Hid.mk' hu
  clear NB LR hr ha hb hu
  generalize hW : w.alloc (.cells #[.string ⟨#[104, 114, 101, 102]⟩, .string ⟨#[115, 114, 99]⟩, .string ⟨#[116, 105, 116, 108, 101]⟩, .string ⟨#[119, 105, 100, 116, 104]⟩] 9) = W at *
  obtain ⟨x0, x1, x2, x3⟩ := cellsP HR.out
  cases h1 : hasL attrsL n
  · have E := Hid.mk' (kv_none (p := p) (n := n) (l := l) (by rw [h1, Bool.and_false]))
    rw [h1] at K1
    have K1 := Hid.mk' K1
    clear h1 K2
    go_enter Tryz.func51, Tryz.ntmps51
    go_wp2_with fail
    clear hW
    refine K1.out.mono ?_
    rintro e w2 ⟨rfl, hw⟩
    obtain rfl := hw.symm
    go_wp2_with go_big_skip
    go_ret2
    exact kvP_nil E.out HB.out
  rw [h1] at K1
  have K1 := Hid.mk' K1
  cases h2 : hasL p.at_ n
  · have E := Hid.mk' (kv_none (p := p) (n := n) (l := l) (by rw [h2, Bool.false_and]))
    rw [h2] at K2
    have K2 := Hid.mk' K2
    clear h1 h2
    go_enter Tryz.func51, Tryz.ntmps51
    go_wp2_with fail
    clear hW
    refine K1.out.mono ?_
    rintro e w2 ⟨rfl, hw⟩
    obtain rfl := hw.symm
    go_wp2_with fail
    refine K2.out.mono ?_
    rintro e w2 ⟨rfl, hw⟩
    obtain rfl := hw.symm
    go_wp2_with go_big_skip
    go_ret2
    exact kvP_nil E.out HB.out
  rw [h2] at K2
  have K2 := Hid.mk' K2
  have h12 : (hasL p.at_ n && hasL attrsL n) = true := by rw [h1, h2]; rfl
  clear h1 h2
  cases hw : isW n
  rotate_left
  · have E := Hid.mk' (kv_width (l := l) h12 hw)
    have hwn : (n.toList == [119, 105, 100, 116, 104]) = true := hw
    have hcv := conv_bytesS d HV.out
    have KT := Hid.mk' (specWT_any (strS l) W (by rw [strS_size]; omega))
    clear hw h12
    generalize strS l = SL at *
    go_enter Tryz.func51, Tryz.ntmps51
    go_wp2_with fail
    clear hW
    refine K1.out.mono ?_
    rintro e w2 ⟨rfl, hww⟩
    obtain rfl := hww.symm
    go_wp2_with fail
    refine K2.out.mono ?_
    rintro e w2 ⟨rfl, hww⟩
    obtain rfl := hww.symm
    go_wp2_with fail
    refine KT.out.mono ?_
    rintro e w2 ⟨rfl, hb2⟩
    have N2 := below_new w2 (.cells #[.int .i64 (wtC SL), .string (wtT SL)] 23)
    have B2 := hb2.trans (N2.mono hb2.size)
    have HB := Hid.mk' (HB.out.trans (B2.mono HB.out.size))
    have RT := rowQ2 w2 23 (.int .i64 (wtC SL)) (.string (wtT SL))
    clear hb2 N2 B2 KT hcv
    generalize hW2 : w2.alloc (.cells #[.int .i64 (wtC SL), .string (wtT SL)] 23) = W2 at *
    obtain ⟨t0, t1, t2⟩ := cellsQ2 RT
    generalize hC : wtC SL = C at *
    generalize hT : wtT SL = T at *
    have hcv : ∀ X : World, (convert 9 30 (.string T)).run Tryz.prog X = .ok (.slice (some ⟨X.heap.size, 0, none⟩) T.size (grownCap X T.size 0 5)) (Lib.bytesWorld X 5 T) := fun X => Lib.run_convert_string_bytes (P := Tryz.prog) X 9 30 5 T Tryz.underlying9 Tryz.underlying30 Tryz.underlying5
    have hold : ∀ (X : World) (b o : Nat), b < X.heap.size → (Lib.bytesWorld X 5 T).cell? ⟨b, o, none⟩ = X.cell? ⟨b, o, none⟩ := fun X b o h => Lib.bytesWorld_old X 5 T ⟨b, o, none⟩ h
    go_wp2_with fail
    have t0' : W2.drew.cell? ⟨w2.heap.size, 0, none⟩ = some (.int .i64 C) := t0
    have t1' : W2.drew.cell? ⟨w2.heap.size, 1, none⟩ = some (.string T) := t1
    have t2' : w2.heap.size < W2.drew.heap.size := t2
    refine wp_region_held_drew (S := (fun w' => w'.cell? ⟨w2.heap.size, 0, none⟩ = some (.int .i64 C) ∧ w'.cell? ⟨w2.heap.size, 1, none⟩ = some (.string T))) (by kernel_rfl) (by simp [*]) (fun hHeld => ?_)
    refine wpAnyH_take (i := 0) (oi := ⟨_, _, _, _, _, _⟩) (v := ?_) rfl (by kernel_rfl) (by kernel_rfl) (by kernel_rfl) (fun _ _ _ h => h) (Or.inl ⟨by rfl, ?_⟩) (by assumption) ?_
    rotate_left
    · (intro w hSw; (try dsimp only at hSw); go_simp; (try with_reducible rfl))
    try simp only [Act.put, List.setIfInBounds_toArray, List.set_cons_zero, List.set_cons_succ]
    refine wpAnyH_take (i := 1) (oi := ⟨_, _, _, _, _, _⟩) (v := ?_) rfl (by kernel_rfl) (by kernel_rfl) (by kernel_rfl) (fun _ _ _ h => h) (Or.inl ⟨by rfl, ?_⟩) (by assumption) ?_
    rotate_left
    · (intro w hSw; (try dsimp only at hSw); go_simp; (try with_reducible rfl))
    try simp only [Act.put, List.setIfInBounds_toArray, List.set_cons_zero, List.set_cons_succ]
    refine wpAnyH_take (i := 3) (oi := ⟨_, _, _, _, _, _⟩) (v := ?_) rfl (by kernel_rfl) (by kernel_rfl) (by kernel_rfl) (fun _ _ _ h => h) (Or.inl ⟨by rfl, ?_⟩) (by assumption) ?_
    rotate_left
    · (intro w hSw; (try dsimp only at hSw); go_simp; (try with_reducible rfl))
    try simp only [Act.put, List.setIfInBounds_toArray, List.set_cons_zero, List.set_cons_succ]
    refine wpAnyH_take (i := 4) (oi := ⟨_, _, _, _, _, _⟩) (v := ?_) rfl (by kernel_rfl) (by kernel_rfl) (by kernel_rfl) (fun _ _ _ h => h) (Or.inl ⟨by rfl, ?_⟩) (by assumption) ?_
    rotate_left
    · (intro w hSw; (try dsimp only at hSw); go_simp; (try with_reducible rfl))
    try simp only [Act.put, List.setIfInBounds_toArray, List.set_cons_zero, List.set_cons_succ]
    refine wpAnyH_ready (rs := [2]) (by kernel_rfl) (by simp) ?_
    refine AllReadyH.cons (o := ⟨_, _, _, _, _, _⟩) rfl (fun K hK => ?_) AllReadyH.nil
    go_simp
    refine hK.out _ _ ⟨(hold _ _ _ t2').trans t0', (hold _ _ _ t2').trans t1'⟩ (fun hHeld => ?_)
    clear hK K
    try simp only [Act.put, List.setIfInBounds_toArray, List.set_cons_zero, List.set_cons_succ]
    refine wpAnyH_take (i := 5) (oi := ⟨_, _, _, _, _, _⟩) (v := ?_) rfl (by kernel_rfl) (by kernel_rfl) (by kernel_rfl) (fun _ _ _ h => h) (Or.inl ⟨by rfl, ?_⟩) (by assumption) ?_
    rotate_left
    · (intro w hSw; (try dsimp only at hSw); go_simp; (try with_reducible rfl))
    try simp only [Act.put, List.setIfInBounds_toArray, List.set_cons_zero, List.set_cons_succ]
    refine wpAnyH_take (i := 6) (oi := ⟨_, _, _, _, _, _⟩) (v := ?_) rfl (by kernel_rfl) (by kernel_rfl) (by kernel_rfl) (fun _ _ _ h => h) (Or.inl ⟨by rfl, ?_⟩) (by assumption) ?_
    rotate_left
    · (intro w hSw; (try dsimp only at hSw); go_simp; (try with_reducible rfl))
    try simp only [Act.put, List.setIfInBounds_toArray, List.set_cons_zero, List.set_cons_succ]
    refine wpAnyH_done (by kernel_rfl) ?_ _
    have HBW := Hid.mk' (show Below W2.heap.size W2 (Lib.bytesWorld W2.drew 5 T) from undrew (Lib.bytesWorld_below W2.drew 5 T))
    have HAT := Hid.mk' (show BAt (Lib.bytesWorld W2.drew 5 T) (some ⟨W2.heap.size, 0, none⟩) (bytesL T) from bytes_at W2.drew T)
    have HL := Hid.mk' (bytesL_len T)
    have HSZ := Hid.mk' HB.out.size
    have HB := Hid.mk' (HB.out.trans (HBW.out.mono HB.out.size))
    clear hcv hold hHeld t0 t1 t2 t0' t1' t2' HBW hW2
    generalize Lib.bytesWorld W2.drew 5 T = W3 at *
    generalize grownCap W2.drew T.size 0 5 = cp at *
    go_wp2
    go_ret2
    refine ⟨some ⟨W2.heap.size, 0, none⟩, cp, ?_, ?_, (fun b o e => by cases e; exact HSZ.out), HB.out⟩
    · rw [E.out]
      show _ = Ending.returned (.tuple #[.slice _ (bytesL T).length _, .int .i64 C])
      rw [HL.out]
      rfl
    · rw [E.out]
      exact HAT.out
  · have hwn : (n.toList == [119, 105, 100, 116, 104]) = false := hw
    have KC := l8Clean_any q d l W HV.out hl
    cases hc : clB l
    · have E := Hid.mk' (kv_text h12 hw hc)
      rw [hc] at KC
      have KC := Hid.mk' KC
      clear hw h12 hc
      go_enter Tryz.func51, Tryz.ntmps51
      go_wp2_with fail
      clear hW
      refine K1.out.mono ?_
      rintro e w2 ⟨rfl, hww⟩
      obtain rfl := hww.symm
      go_wp2_with fail
      refine K2.out.mono ?_
      rintro e w2 ⟨rfl, hww⟩
      obtain rfl := hww.symm
      go_wp2_with fail
      refine KC.out.mono ?_
      rintro e w2 ⟨rfl, hww⟩
      obtain rfl := hww.symm
      go_wp2
      go_ret2
      exact kvP_nil E.out HB.out
    rw [hc] at KC
    have KC := Hid.mk' KC
    have KU := l8Url_any p g a b c n1 n2 n3 q d l W HR.out HA.out hp HV.out HU.out hl
    have KL : Hid (∀ X : World, Below W.heap.size W X → Calls Tryz.prog 93 #[.slice q l.length d] X fun e w' => ∃ v, e = .returned v ∧ OB w' v l ∧ In X.heap.size w'.heap.size v ∧ Below X.heap.size X w') := Hid.mk' (fun X hb => l1Copy_any q d l X (HV.out.below hb) hl)
    have SM : Hid ((!isT n && !urlB p l) = false → kvF p n l = (0, l)) := Hid.mk' (kv_same h12 hw hc)
    have ST : Hid ((!isT n && !urlB p l) = true → kvF p n l = (7, [])) := Hid.mk' (kv_state h12 hw hc)
    clear hw h12 hc
    cases ht : isT n
    · have htn : (n.toList == [116, 105, 116, 108, 101]) = false := ht
      cases hur : urlB p l
      · have E := Hid.mk' (ST.out (by rw [ht, hur]; rfl))
        rw [hur] at KU
        have KU := Hid.mk' KU
        clear ht hur SM ST KL
        go_enter Tryz.func51, Tryz.ntmps51
        go_wp2_with fail
        clear hW
        refine K1.out.mono ?_
        rintro e w2 ⟨rfl, hww⟩
        obtain rfl := hww.symm
        go_wp2_with fail
        refine K2.out.mono ?_
        rintro e w2 ⟨rfl, hww⟩
        obtain rfl := hww.symm
        go_wp2_with fail
        refine KC.out.mono ?_
        rintro e w2 ⟨rfl, hww⟩
        obtain rfl := hww.symm
        go_wp2_with fail
        refine KU.out.mono ?_
        rintro e w2 ⟨rfl, hb2⟩
        have HB := Hid.mk' (HB.out.trans (hb2.mono HB.out.size))
        clear hb2
        go_wp2
        go_ret2
        exact kvP_nil E.out HB.out
      · have E := Hid.mk' (SM.out (by rw [ht, hur]; rfl))
        rw [hur] at KU
        have KU := Hid.mk' KU
        clear ht hur SM ST
        go_enter Tryz.func51, Tryz.ntmps51
        go_wp2_with fail
        clear hW
        refine K1.out.mono ?_
        rintro e w2 ⟨rfl, hww⟩
        obtain rfl := hww.symm
        go_wp2_with fail
        refine K2.out.mono ?_
        rintro e w2 ⟨rfl, hww⟩
        obtain rfl := hww.symm
        go_wp2_with fail
        refine KC.out.mono ?_
        rintro e w2 ⟨rfl, hww⟩
        obtain rfl := hww.symm
        go_wp2_with fail
        refine KU.out.mono ?_
        rintro e w2 ⟨rfl, hb2⟩
        have HB := Hid.mk' (HB.out.trans (hb2.mono HB.out.size))
        have HB2 := Hid.mk' hb2
        clear hb2
        go_wp2_with fail
        refine (KL.out _ HB2.out).mono ?_
        rintro e w3 ⟨v, rfl, ob, hin, hb3⟩
        obtain ⟨va, vc, rfl, hat⟩ := ob.len
        have HAT := Hid.mk' hat
        have HIN : Hid (∀ b o, va = some ⟨b, o, none⟩ → w.heap.size ≤ b) := Hid.mk' (fun b o e => by subst e; exact Nat.le_trans HB.out.size (hin b rfl).1)
        have HB := Hid.mk' (HB.out.trans (hb3.mono HB.out.size))
        clear hb3 ob hat hin
        go_wp2
        go_ret2
        exact ⟨va, vc, by rw [E.out]; rfl, by rw [E.out]; exact HAT.out, HIN.out, HB.out⟩
    · have htn : (n.toList == [116, 105, 116, 108, 101]) = true := ht
      have E := Hid.mk' (SM.out (by rw [ht]; rfl))
      clear ht SM ST KU
      go_enter Tryz.func51, Tryz.ntmps51
      go_wp2_with fail
      clear hW
      refine K1.out.mono ?_
      rintro e w2 ⟨rfl, hww⟩
      obtain rfl := hww.symm
      go_wp2_with fail
      refine K2.out.mono ?_
      rintro e w2 ⟨rfl, hww⟩
      obtain rfl := hww.symm
      go_wp2_with fail
      refine KC.out.mono ?_
      rintro e w2 ⟨rfl, hww⟩
      obtain rfl := hww.symm
      go_wp2_with fail
      refine (KL.out _ (Below.refl _ _)).mono ?_
      rintro e w3 ⟨v, rfl, ob, hin, hb3⟩
      obtain ⟨va, vc, rfl, hat⟩ := ob.len
      have HAT := Hid.mk' hat
      have HIN : Hid (∀ b o, va = some ⟨b, o, none⟩ → w.heap.size ≤ b) := Hid.mk' (fun b o e => by subst e; exact Nat.le_trans HB.out.size (hin b rfl).1)
      have HB := Hid.mk' (HB.out.trans (hb3.mono HB.out.size))
      clear hb3 ob hat hin
      go_wp2
      go_ret2
      exact ⟨va, vc, by rw [E.out]; rfl, by rw [E.out]; exact HAT.out, HIN.out, HB.out⟩

end Go.Proofs.YtfdcfajliofbfaaGreatDoor

/- KeptValue and MayValue: the model's side; the program's small ones. -/
namespace Go.Proofs.YtfdcfajliofbfaaGreatDoor
open Go.RowKit Go.Maps
set_option linter.unusedVariables false
set_option linter.unusedSimpArgs false

/-- What KeptValue answers. -/
def kvP (p : PO) (n : ByteArray) (l : List Int) : Int × List Int := if polF p = 0 then (if (kvF p n l).1 = 0 then kvF p n l else ((kvF p n l).1, [])) else (polF p, [])

theorem kvP_bad {p : PO} {n : ByteArray} {l : List Int} (h : ¬ polF p = 0) : kvP p n l = (polF p, []) := by unfold kvP; rw [if_neg h]
theorem kvP_code {p : PO} {n : ByteArray} {l : List Int} (h : polF p = 0) (h2 : ¬ (kvF p n l).1 = 0) : kvP p n l = ((kvF p n l).1, []) := by unfold kvP; rw [if_pos h, if_neg h2]
theorem kvP_good {p : PO} {n : ByteArray} {l : List Int} (h : polF p = 0) (h2 : (kvF p n l).1 = 0) : kvP p n l = kvF p n l := by unfold kvP; rw [if_pos h, if_pos h2]

/-- What KeptValue leaves, to be read. -/
def KrP (p : PO) (n : ByteArray) (l : List Int) (w : World) (e : Ending) (w' : World) : Prop := ∃ v c', e = .returned (.agg #[.int .i64 (kvP p n l).1, .slice v (kvP p n l).2.length c']) ∧ BAt w' v (kvP p n l).2 ∧ Below w.heap.size w w'

theorem krP_nil {p : PO} {n : ByteArray} {l : List Int} {c : Int} {w w' : World} (h : kvP p n l = (c, [])) (hb : Below w.heap.size w w') : KrP p n l w (.returned (.agg #[.int .i64 c, .slice none 0 0])) w' :=
  ⟨none, 0, by rw [h]; rfl, by rw [h]; exact .inl rfl, hb⟩

/-- The boxes of the model's KeptValue: the policy's, the answer's. -/
theorem boxesK (w : World) (x0 x1 x2 : Value) :
    let W := (w.alloc (.cells #[x0, x1, x2] 35)).alloc (.cells #[.int .i64 0, .slice none 0 0] 33)
    Below w.heap.size w W ∧ W.rowIs w.heap.size 35 3 (r3 x0 x1 x2) ∧ W.rowIs (w.heap.size + 1) 33 2 (q2 (.int .i64 0) (.slice none 0 0)) := by
  refine ⟨(below_new w _).alloc (by simp) _, (row3 w _ x0 x1 x2).alloc _, ?_⟩
  have := rowQ2 (w.alloc (.cells #[x0, x1, x2] 35)) 33 (.int .i64 0) (.slice none 0 0)
  rw [show (w.alloc (.cells #[x0, x1, x2] 35)).heap.size = w.heap.size + 1 by simp] at this
  exact this

theorem BAt.setTwo {w : World} {v : Option Addr} {l : List Int} {g : Nat} {x y : Value} (h : BAt w v l) (hg : ∀ b o, v = some ⟨b, o, none⟩ → l ≠ [] → b ≠ g) : BAt ((w.setCell ⟨g, 0, none⟩ x).setCell ⟨g, 1, none⟩ y) v l := by
  rcases h with h | ⟨b, o, e, hs, hc⟩
  · exact .inl h
  · by_cases hl : l = []
    · exact .inl hl
    · refine .inr ⟨b, o, e, by simpa using hs, fun k hk => ?_⟩
      have hne := hg b o e hl
      rw [World.cell?_setCell_other _ _ _ _ (by simp [Ne.symm hne]; try (intro h; exact absurd h.symm hne)), World.cell?_setCell_other _ _ _ _ (by simp [Ne.symm hne]; try (intro h; exact absurd h.symm hne))]
      exact hc k hk

set_option maxRecDepth 100000 in
set_option maxHeartbeats 3200000 in
theorem specKV_any (p : PO) (a b c : Option Addr) (n1 n2 n3 : Nat) (n : ByteArray) (q : Option Addr) (d : Nat) (l : List Int) (w : World) (ha : POAt w a b c p) (hp : (psz p : Int) ≤ 1048576) (hb : BAt w q l) (hu : ∀ k, k < l.length → 0 ≤ l.getD k 0 ∧ l.getD k 0 ≤ 255) (hl : (l.length : Int) ≤ 1048576) :
    Calls Tryz.prog 12 #[.agg #[.slice a p.tg.length n1, .slice b p.at_.length n2, .slice c p.sc.length n3], .string n, .slice q l.length d] w fun e w' => KrP p n l w e w' := by
  obtain ⟨N0, RX, RR⟩ := boxesK w (.slice a p.tg.length n1) (.slice b p.at_.length n2) (.slice c p.sc.length n3)
  have KF := l8Fault_any p w.heap.size a b c n1 n2 n3 _ RX (ha.below N0) hp
  have HA := Hid.mk' (ha.below N0)
  have HV := Hid.mk' (hb.below N0)
  have HU := Hid.mk' hu
  have HB := Hid.mk' N0
  have HX := Hid.mk' RX
  have HR := Hid.mk' RR
  clear ha hb hu N0 RX RR
  generalize hW : (w.alloc (.cells #[.slice a p.tg.length n1, .slice b p.at_.length n2, .slice c p.sc.length n3] 35)).alloc (.cells #[.int .i64 0, .slice none 0 0] 33) = W at *
  go_enter Tryz.func12, Tryz.ntmps12
  go_wp2_with fail
  clear hW
  refine (Hid.mk' KF).out.mono ?_
  rintro e w1 ⟨rfl, hb1⟩
  have HB1 := Hid.mk' (HB.out.trans (hb1.mono HB.out.size))
  have HX1 := Hid.mk' (rowB HX.out hb1)
  have HR1 := Hid.mk' (rowB HR.out hb1)
  have SZ : Hid (w.heap.size + 1 < w1.heap.size) := Hid.mk' HR1.out.lt
  by_cases h0 : polF p = 0
  · rw [h0]
    have KL := Hid.mk' (l8Kept_any p w.heap.size a b c n1 n2 n3 n q d l w1 HX1.out (HA.out.below hb1) hp (HV.out.below hb1) HU.out hl)
    have H0 := Hid.mk' h0
    clear hb1 KF h0
    go_wp2_with fail
    refine KL.out.mono ?_
    rintro e w2 ⟨v, c', rfl, hat, hfr, hb2⟩
    obtain ⟨y0, y1, y2⟩ := cellsQ2 (rowB HR1.out hb2)
    obtain ⟨f0, f1⟩ := frzQ2 (rowB HR1.out hb2)
    have HB2 := Hid.mk' (HB1.out.trans (hb2.mono HB1.out.size))
    by_cases h1 : (kvF p n l).1 = 0
    · have E := Hid.mk' (kvP_good H0.out h1)
      have HAT := Hid.mk' hat
      have HFR := Hid.mk' hfr
      have HL := Hid.mk' h1
      rw [h1]
      clear hb2 hat hfr KL h1
      generalize hk : (kvF p n l).2 = K2 at *
      go_wp2
      refine bodyPost_ret (v := .agg #[.int .i64 0, .slice v K2.length c']) (by simp [results, Tryz.results12, go_sem, *]) rfl ?_
      refine ⟨v, c', by rw [E.out, HL.out, hk], ?_, (HB2.out.setCell (p := ⟨w.heap.size + 1, 0, none⟩) (by simp) _).setCell (p := ⟨w.heap.size + 1, 1, none⟩) (by simp) _⟩
      rw [E.out, hk]
      exact HAT.out.setTwo (fun b o e _ => by have := HFR.out b o e; have := SZ.out; omega)
    · have E := Hid.mk' (kvP_code H0.out h1)
      clear hb2 hat hfr KL
      generalize (kvF p n l).1 = C at *
      generalize (kvF p n l).2 = K2 at *
      go_wp2
      refine bodyPost_ret (v := .agg #[.int .i64 C, .slice none 0 0]) (by simp [results, Tryz.results12, go_sem, *]) rfl ?_
      exact krP_nil E.out ((HB2.out.setCell (p := ⟨w.heap.size + 1, 0, none⟩) (by simp) _).setCell (p := ⟨w.heap.size + 1, 1, none⟩) (by simp) _)
  · have E := Hid.mk' (kvP_bad (n := n) (l := l) h0)
    obtain ⟨y0, y1, y2⟩ := cellsQ2 HR1.out
    obtain ⟨f0, f1⟩ := frzQ2 HR1.out
    clear hb1 KF
    generalize polF p = C at *
    go_wp2
    refine bodyPost_ret (v := .agg #[.int .i64 C, .slice none 0 0]) (by simp [results, Tryz.results12, go_sem, *]) rfl ?_
    exact krP_nil E.out ((HB1.out.setCell (p := ⟨w.heap.size + 1, 0, none⟩) (by simp) _).setCell (p := ⟨w.heap.size + 1, 1, none⟩) (by simp) _)

/-- Whether a value may be. -/
def mvB (p : PO) (n : ByteArray) (l : List Int) : Bool := decide ((kvP p n l).1 = 0) && ((strS (kvP p n l).2).toList == (strS l).toList)

set_option maxRecDepth 100000 in
set_option maxHeartbeats 1600000 in
theorem specMV_any (p : PO) (a b c : Option Addr) (n1 n2 n3 : Nat) (n : ByteArray) (q : Option Addr) (d : Nat) (l : List Int) (w : World) (ha : POAt w a b c p) (hp : (psz p : Int) ≤ 1048576) (hb : BAt w q l) (hu : ∀ k, k < l.length → 0 ≤ l.getD k 0 ∧ l.getD k 0 ≤ 255) (hl : (l.length : Int) ≤ 1048576) :
    Calls Tryz.prog 23 #[.agg #[.slice a p.tg.length n1, .slice b p.at_.length n2, .slice c p.sc.length n3], .string n, .slice q l.length d] w fun e w' => e = .returned (.bool (mvB p n l)) ∧ Below w.heap.size w w' := by
  have N0 := below_new w (.cells #[.slice a p.tg.length n1, .slice b p.at_.length n2, .slice c p.sc.length n3] 35)
  have KV := Hid.mk' (specKV_any p a b c n1 n2 n3 n q d l _ (ha.below N0) hp (hb.below N0) hu hl)
  have HX := Hid.mk' (row3 w 35 (.slice a p.tg.length n1) (.slice b p.at_.length n2) (.slice c p.sc.length n3))
  have HV := Hid.mk' (hb.below N0)
  have HB := Hid.mk' N0
  have HM := Hid.mk' (show mvB p n l = (decide ((kvP p n l).1 = 0) && ((strS (kvP p n l).2).toList == (strS l).toList)) from rfl)
  clear ha hb hu N0
  generalize mvB p n l = B at *
  generalize hW : w.alloc (.cells #[.slice a p.tg.length n1, .slice b p.at_.length n2, .slice c p.sc.length n3] 35) = W at *
  obtain ⟨x0, x1, x2, x3⟩ := cellsP HX.out
  go_enter Tryz.func23, Tryz.ntmps23
  go_wp2_with fail
  clear hW
  refine KV.out.mono ?_
  rintro e w1 ⟨v, c', rfl, hat, hb1⟩
  have N1 := below_new w1 (.cells #[.int .i64 (kvP p n l).1, .slice v (kvP p n l).2.length c'] 33)
  have B1 := hb1.trans (N1.mono hb1.size)
  have HB1 := Hid.mk' (HB.out.trans (B1.mono HB.out.size))
  have c1 := conv_bytesS c' (hat.below N1)
  have c2 := conv_bytesS d (HV.out.below B1)
  obtain ⟨y0, y1, y2⟩ := cellsQ2 (rowQ2 w1 33 (.int .i64 (kvP p n l).1) (.slice v (kvP p n l).2.length c'))
  clear hb1 N1 B1 hat x0 x1 x2 x3
  generalize hW1 : w1.alloc (.cells #[.int .i64 (kvP p n l).1, .slice v (kvP p n l).2.length c'] 33) = W1 at *
  generalize (kvP p n l).1 = C at *
  generalize hk2 : (kvP p n l).2 = K2 at *
  clear hk2
  by_cases h0 : C = 0
  · have h0b : (C == 0) = true := by rw [beq_iff_eq]; exact h0
    have HM2 : Hid (B = ((strS K2).toList == (strS l).toList)) := Hid.mk' (by rw [HM.out, decide_eq_true h0, Bool.true_and])
    clear h0 HM
    go_wp2_with fail
    refine bodyPost_ret (v := .bool ((strS K2).toList == (strS l).toList)) (by simp [results, Tryz.results23, go_sem, *]) rfl ?_
    exact ⟨by rw [HM2.out], HB1.out⟩
  · have h0b : (C == 0) = false := by rw [beq_eq_false_iff_ne]; exact h0
    have HM2 : Hid (B = false) := Hid.mk' (by rw [HM.out, decide_eq_false h0, Bool.false_and])
    clear h0 HM
    go_wp2_with fail
    refine bodyPost_ret (v := .bool false) (by simp [results, Tryz.results23, go_sem, *]) rfl ?_
    exact ⟨by rw [HM2.out], HB1.out⟩

end Go.Proofs.YtfdcfajliofbfaaGreatDoor

/- The program's small ones of KeptValue: a width, a link. -/
namespace Go.Proofs.YtfdcfajliofbfaaGreatDoor
open Go.RowKit Go.Maps
set_option linter.unusedVariables false
set_option linter.unusedSimpArgs false

/-- Bytes that may be written. -/
def FrA (w : World) (v : Option Addr) (n : Nat) : Prop := ∀ b o, v = some ⟨b, o, none⟩ → ∀ k, k < n → w.frozen? ⟨b, o + k, none⟩ = false

theorem FrA.row {w : World} {g t n m : Nat} {f : Nat → Value} (h : w.rowIs g t m f) : FrA w (some ⟨g, 0, none⟩) n := fun b o e k _ => by cases e; exact h.frozen _

theorem FrA.setTwo {w : World} {v : Option Addr} {n : Nat} {a b : Addr} {x y : Value} (h : FrA w v n) : FrA ((w.setCell a x).setCell b y) v n := fun b o e k hk => by
  rw [World.frozen?_setCell, World.frozen?_setCell]; exact h b o e k hk

theorem bytes_free (w : World) (s : ByteArray) : FrA (Lib.bytesWorld w 5 s) (some ⟨w.heap.size, 0, none⟩) s.size := fun b o e k hk => by
  cases e
  unfold World.frozen?
  rw [Lib.bytesWorld_at_new]
  have : s.size ≤ (Lib.bytesCells w 5 s).size := by
    unfold Lib.bytesCells
    rw [Array.size_append, Array.size_map]
    exact Nat.le_add_right _ _
  have h2 : decide ((Lib.bytesCells w 5 s).size ≤ 0 + k) = false := by rw [decide_eq_false_iff_not]; omega
  simp only [h2, Bool.false_and]

/-- An answer of bytes, to be read and written. -/
def KqP (r : Int × List Int) (w : World) (e : Ending) (w' : World) : Prop := ∃ v c', e = .returned (.agg #[.int .i64 r.1, .slice v r.2.length c']) ∧ BAt w' v r.2 ∧ FrA w' v r.2.length ∧ (∀ b o, v = some ⟨b, o, none⟩ → w.heap.size ≤ b) ∧ Below w.heap.size w w'

theorem kqP_nil {r : Int × List Int} {c : Int} {w w' : World} (h : r = (c, [])) (hb : Below w.heap.size w w') : KqP r w (.returned (.agg #[.int .i64 c, .slice none 0 0])) w' :=
  ⟨none, 0, by rw [h]; rfl, by rw [h]; exact .inl rfl, (fun b o e => by cases e), (fun b o e => by cases e), hb⟩

/-- What a width answers. -/
def kwF (s : ByteArray) : Int × List Int := if wtC s = 0 then (0, bytesL (wtT s)) else (wtC s, [])

theorem kwF_bad {s : ByteArray} (h : ¬ wtC s = 0) : kwF s = (wtC s, []) := by unfold kwF; rw [if_neg h]
theorem kwF_good {s : ByteArray} (h : wtC s = 0) : kwF s = (0, bytesL (wtT s)) := by unfold kwF; rw [if_pos h]

set_option maxRecDepth 100000 in
set_option maxHeartbeats 3200000 in
theorem keptWidth_any (q : Option Addr) (d : Nat) (l : List Int) (w : World) (hb : BAt w q l) (hl : (l.length : Int) ≤ 1048576) (t : TBS w) :
    Calls Tryz.prog 100 #[.slice q l.length d] w fun e w' => KqP (kwF (strS l)) w e w' := by
  have N0 := below_new w (.cells #[.int .i64 0, .slice none 0 0] 33)
  have HB0 := Hid.mk' N0
  have HR := Hid.mk' (rowQ2 w 33 (.int .i64 0) (.slice none 0 0))
  have hcv := conv_bytesS d (hb.below N0)
  have KT := Hid.mk' (implWT_any (strS l) _ (by rw [strS_size]; omega) (t.below N0))
  clear hb t N0
  generalize hW : w.alloc (.cells #[.int .i64 0, .slice none 0 0] 33) = W at *
  generalize strS l = SL at *
  go_enter Tryz.func100, Tryz.ntmps100
  go_wp2_with fail
  clear hW
  refine KT.out.mono ?_
  rintro e w2 ⟨rfl, hb2⟩
  have N2 := below_new w2 (.cells #[.int .i64 (wtC SL), .string (wtT SL)] 23)
  have B2 := hb2.trans (N2.mono hb2.size)
  have HB := Hid.mk' (HB0.out.trans (B2.mono HB0.out.size))
  have HR2 := Hid.mk' (rowB HR.out B2)
  obtain ⟨y0, y1, y2⟩ := cellsQ2 (rowB HR.out B2)
  obtain ⟨f0, f1⟩ := frzQ2 (rowB HR.out B2)
  have RT := rowQ2 w2 23 (.int .i64 (wtC SL)) (.string (wtT SL))
  clear hb2 N2 B2 KT hcv
  generalize hW2 : w2.alloc (.cells #[.int .i64 (wtC SL), .string (wtT SL)] 23) = W2 at *
  obtain ⟨t0, t1, t2⟩ := cellsQ2 RT
  by_cases h0 : wtC SL = 0
  · have E := Hid.mk' (kwF_good h0)
    have h0b : (wtC SL != 0) = false := by simp [h0]
    generalize hT : wtT SL = T at *
    generalize hC : wtC SL = C at *
    clear hC hT h0
    have hcv : ∀ X : World, (convert 9 30 (.string T)).run Tryz.prog X = .ok (.slice (some ⟨X.heap.size, 0, none⟩) T.size (grownCap X T.size 0 5)) (Lib.bytesWorld X 5 T) := fun X => Lib.run_convert_string_bytes (P := Tryz.prog) X 9 30 5 T Tryz.underlying9 Tryz.underlying30 Tryz.underlying5
    have HBW := Hid.mk' (show Below W2.heap.size W2 (Lib.bytesWorld W2 5 T) from Lib.bytesWorld_below W2 5 T)
    have HAT := Hid.mk' (show BAt (Lib.bytesWorld W2 5 T) (some ⟨W2.heap.size, 0, none⟩) (bytesL T) from bytes_at W2 T)
    have HL := Hid.mk' (bytesL_len T)
    have HFA := Hid.mk' (bytes_free W2 T)
    have HSZ := Hid.mk' y2
    have HSW := Hid.mk' HB.out.size
    obtain ⟨z0, z1, z2⟩ := cellsQ2 (rowB HR2.out HBW.out)
    obtain ⟨g0, g1⟩ := frzQ2 (rowB HR2.out HBW.out)
    go_wp2_with fail
    have HB3 := Hid.mk' (HB.out.trans (HBW.out.mono HB.out.size))
    generalize Lib.bytesWorld W2 5 T = W3 at *
    generalize grownCap W2 T.size 0 5 = cp at *
    refine bodyPost_ret (v := .agg #[.int .i64 0, .slice (some ⟨W2.heap.size, 0, none⟩) T.size cp]) (by simp [results, Tryz.results100, go_sem, *]) rfl ?_
    refine ⟨some ⟨W2.heap.size, 0, none⟩, cp, ?_, ?_, ?_, (fun b o e => by cases e; exact HSW.out), (HB3.out.setCell (p := ⟨w.heap.size, 0, none⟩) (by simp) _).setCell (p := ⟨w.heap.size, 1, none⟩) (by simp) _⟩
    · rw [E.out]
      show _ = Ending.returned (.agg #[.int .i64 0, .slice _ (bytesL T).length _])
      rw [HL.out]
    · rw [E.out]
      exact HAT.out.setTwo (fun b o e _ => by cases e; have := HSZ.out; omega)
    · rw [E.out]
      show FrA _ _ (bytesL T).length
      rw [HL.out]
      exact HFA.out.setTwo
  · have E := Hid.mk' (kwF_bad h0)
    have h0b : (wtC SL != 0) = true := by simp [h0]
    generalize wtT SL = T at *
    generalize wtC SL = C at *
    clear h0
    go_wp2_with fail
    refine bodyPost_ret (v := .agg #[.int .i64 C, .slice none 0 0]) (by simp [results, Tryz.results100, go_sem, *]) rfl ?_
    exact kqP_nil E.out ((HB.out.setCell (p := ⟨w.heap.size, 0, none⟩) (by simp) _).setCell (p := ⟨w.heap.size, 1, none⟩) (by simp) _)

/-- Schemes of a clean value. -/
theorem sch_clean {l : List Int} (h : clB l = true) : schC l = (if schS l = [] then 4 else 0) ∧ schT l = strS (schS l) := by
  have h8 := clB_len h
  unfold schC schT
  simp only [if_neg (show ¬ 240 < l.length by omega)]
  exact ⟨trivial, trivial⟩

theorem url_clean {p : PO} {l : List Int} (h : clB l = true) (ht : toldB l = true) : urlB p l = (decide (schC l = 0) && (hasL p.sc (schT l) && hasL schemesL (schT l))) := by
  obtain ⟨e1, e2⟩ := sch_clean h
  unfold urlB
  rw [ht, e1, e2]
  by_cases hs : schS l = []
  · rw [if_pos hs, hs]
    have : hasL schemesL (strS []) = false := by decide +kernel
    rw [this]
    rfl
  · rw [if_neg hs]
    simp only [Bool.not_true, Bool.false_or]
    rw [Bool.and_comm]
    simp

set_option maxRecDepth 100000 in
set_option maxHeartbeats 3200000 in
theorem mayLink_any (p : PO) (b1 b2 b3 g c lo : Nat) (l : List Int) (w : World) (hm : PM p lo b1 b2 b3 w) (hr : w.rowIs g 5 l.length (bv l)) (hc : l.length ≤ c) (hcl : clB l = true) (hu : ∀ k, k < l.length → 0 ≤ l.getD k 0 ∧ l.getD k 0 ≤ 255) :
    Calls Tryz.prog 102 #[.agg #[.map (some b1), .map (some b2), .map (some b3)], .slice (some ⟨g, 0, none⟩) l.length c] w fun e w' => e = .returned (.bool (urlB p l)) ∧ Below w.heap.size w w' := by
  have h8 := clB_len hcl
  have N0 := below_new w (.cells #[.map (some b1), .map (some b2), .map (some b3)] 89)
  have HB0 := Hid.mk' N0
  have HX := Hid.mk' (row3 w 89 (.map (some b1)) (.map (some b2)) (.map (some b3)))
  have HM := Hid.mk' (hm.below N0)
  have HR := Hid.mk' (rowB hr N0)
  have KA := asksScheme_any g c l _ (rowB hr N0) hc hcl hu
  clear hm hr N0
  generalize hW : w.alloc (.cells #[.map (some b1), .map (some b2), .map (some b3)] 89) = W at *
  cases ht : toldB l
  · have E : Hid (urlB p l = true) := Hid.mk' (by unfold urlB; rw [ht]; rfl)
    rw [ht] at KA
    have KA := Hid.mk' KA
    generalize urlB p l = B at *
    clear hu hcl
    go_enter Tryz.func102, Tryz.ntmps102
    go_wp2_with fail
    clear hW
    refine KA.out.mono ?_
    rintro e w1 ⟨rfl, hb⟩
    have HB := Hid.mk' (HB0.out.trans (hb.mono HB0.out.size))
    clear hb
    go_wp2
    go_ret
    exact ⟨by rw [E.out]; rfl, HB.out⟩
  · have E := Hid.mk' (url_clean (p := p) hcl ht)
    have KS : Hid (∀ X : World, Below W.heap.size W X → Calls Tryz.prog 139 #[.slice (some ⟨g, 0, none⟩) l.length c] X fun e w' => e = .returned (.agg #[.int .i64 (schC l), .string (schT l)]) ∧ Below X.heap.size X w') := Hid.mk' (fun X hX => implSO_any g c l X (rowB HR.out hX) hc hu (by omega))
    have HS : Hid (((schT l).size : Int) ≤ 1048576) := Hid.mk' (by
      rw [(sch_clean hcl).2, strS_size]
      unfold schS
      split
      · rw [List.length_map, List.length_take]; omega
      · simp)
    rw [ht] at KA
    have KA := Hid.mk' KA
    generalize urlB p l = B at *
    clear hu hcl ht
    generalize schC l = C at *
    generalize schT l = T at *
    go_enter Tryz.func102, Tryz.ntmps102
    go_wp2_with fail
    clear hW
    refine KA.out.mono ?_
    rintro e w1 ⟨rfl, hb⟩
    have HB := Hid.mk' (HB0.out.trans (hb.mono HB0.out.size))
    have KS1 := Hid.mk' (KS.out _ hb)
    have HM1 := Hid.mk' (HM.out.below hb)
    have HX1 := Hid.mk' (rowB HX.out hb)
    clear hb KA KS
    go_wp2_with fail
    refine KS1.out.mono ?_
    rintro e w2 ⟨rfl, hb⟩
    have N2 := below_new w2 (.cells #[.int .i64 C, .string T] 23)
    have B2 := hb.trans (N2.mono hb.size)
    have HB := Hid.mk' (HB.out.trans (B2.mono HB.out.size))
    have KH := Hid.mk' (hasW_any b3 _ T _ (HM1.out.below B2).s HS.out)
    obtain ⟨x0, x1, x2, x3⟩ := cellsP (rowB HX1.out B2)
    obtain ⟨t0, t1, t2⟩ := cellsQ2 (rowQ2 w2 23 (.int .i64 C) (.string T))
    clear hb N2 B2 KS1
    generalize hW2 : w2.alloc (.cells #[.int .i64 C, .string T] 23) = W2 at *
    by_cases h0 : C = 0
    · have h0b : (C == 0) = true := by rw [beq_iff_eq]; exact h0
      have E : Hid (B = (hasL p.sc T && hasL schemesL T)) := Hid.mk' (by rw [E.out, decide_eq_true h0, Bool.true_and])
      clear h0
      go_wp2_with fail
      clear hW2
      refine KH.out.mono ?_
      rintro e w3 ⟨rfl, hb⟩
      have HB := Hid.mk' (HB.out.trans (hb.mono HB.out.size))
      clear hb
      go_wp2
      go_ret
      exact ⟨by rw [E.out]; rfl, HB.out⟩
    · have h0b : (C == 0) = false := by rw [beq_eq_false_iff_ne]; exact h0
      have E : Hid (B = false) := Hid.mk' (by rw [E.out, decide_eq_false h0, Bool.false_and])
      clear h0
      go_wp2
      go_ret
      exact ⟨by rw [E.out]; rfl, HB.out⟩

end Go.Proofs.YtfdcfajliofbfaaGreatDoor

/- KeptValue and MayValue: the program's side. -/
namespace Go.Proofs.YtfdcfajliofbfaaGreatDoor
open Go.RowKit Go.Maps
set_option linter.unusedVariables false
set_option linter.unusedSimpArgs false

/-- What a value is kept as. -/
def krF (p : PO) (n : ByteArray) (l : List Int) : Int × List Int := if (kvF p n l).1 = 0 then kvF p n l else ((kvF p n l).1, [])

theorem krF_code {p : PO} {n : ByteArray} {l : List Int} {c : Int} (h : kvF p n l = (c, [])) : krF p n l = (c, []) := by
  unfold krF; rw [h]; split <;> rfl

theorem krF_width {p : PO} {n : ByteArray} {l : List Int} (h : (hasL p.at_ n && hasL attrsL n) = true) (hw : isW n = true) : krF p n l = kwF (strS l) := by
  unfold krF kwF; rw [kv_width h hw]
  by_cases h0 : wtC (strS l) = 0
  · rw [if_pos h0, if_pos h0, h0]
  · rw [if_neg h0, if_neg h0]

theorem krF_same {p : PO} {n : ByteArray} {l : List Int} (h : kvF p n l = (0, l)) : krF p n l = (0, l) := by
  unfold krF; rw [h]; rfl

theorem kvP_kr {p : PO} {n : ByteArray} {l : List Int} (h : polF p = 0) : kvP p n l = krF p n l := by unfold kvP krF; rw [if_pos h]

/-- The boxes of the program's KeptValue: what is let in, the answer's. -/
theorem boxesV (w : World) (x0 x1 x2 : Value) :
    let W := (w.alloc (.cells #[x0, x1, x2] 89)).alloc (.cells #[.int .i64 0, .slice none 0 0] 33)
    Below w.heap.size w W ∧ W.rowIs w.heap.size 89 3 (r3 x0 x1 x2) ∧ W.rowIs (w.heap.size + 1) 33 2 (q2 (.int .i64 0) (.slice none 0 0)) := by
  refine ⟨(below_new w _).alloc (by simp) _, (row3 w _ x0 x1 x2).alloc _, ?_⟩
  have := rowQ2 (w.alloc (.cells #[x0, x1, x2] 89)) 33 (.int .i64 0) (.slice none 0 0)
  rw [show (w.alloc (.cells #[x0, x1, x2] 89)).heap.size = w.heap.size + 1 by simp] at this
  exact this

set_option maxRecDepth 100000 in
set_option maxHeartbeats 6400000 in
theorem keptValue_any (p : PO) (b1 b2 b3 g c lo : Nat) (n : ByteArray) (l : List Int) (w : World) (hm : PM p lo b1 b2 b3 w) (hr : w.rowIs g 5 l.length (bv l)) (hc : l.length ≤ c) (hn : (n.size : Int) ≤ 1048576) (hu : ∀ k, k < l.length → 0 ≤ l.getD k 0 ∧ l.getD k 0 ≤ 255) (hl : (l.length : Int) ≤ 1048576) (t : TBS w) :
    Calls Tryz.prog 54 #[.agg #[.map (some b1), .map (some b2), .map (some b3)], .string n, .slice (some ⟨g, 0, none⟩) l.length c] w fun e w' => KqP (krF p n l) w e w' := by
  obtain ⟨N0, RX, RR⟩ := boxesV w (.map (some b1)) (.map (some b2)) (.map (some b3))
  have KH : Calls Tryz.prog 99 #[.map (some b2), .string n] _ fun e w' => e = .returned (.bool (hasL p.at_ n && hasL attrsL n)) ∧ Below _ _ w' := hasW_any b2 _ n _ (hm.below N0).a hn
  have HB := Hid.mk' N0
  have HM := Hid.mk' (hm.below N0)
  have HV := Hid.mk' (rowB hr N0)
  have HT := Hid.mk' (t.below N0)
  have HX := Hid.mk' RX
  have HR := Hid.mk' RR
  have HU := Hid.mk' hu
  obtain ⟨x0, x1, x2, x3⟩ := cellsP RX
  clear hm hr t N0 RX RR hu
  generalize hW : (w.alloc (.cells #[.map (some b1), .map (some b2), .map (some b3)] 89)).alloc (.cells #[.int .i64 0, .slice none 0 0] 33) = W at *
  cases ha : (hasL p.at_ n && hasL attrsL n)
  · have E := Hid.mk' (krF_code (kv_none (l := l) ha))
    rw [ha] at KH
    have KH := Hid.mk' KH
    clear ha
    generalize krF p n l = R at *
    go_enter Tryz.func54, Tryz.ntmps54
    go_wp2_with fail
    clear hW x0 x1 x2 x3
    refine KH.out.mono ?_
    rintro e w1 ⟨rfl, hb⟩
    have HB := Hid.mk' (HB.out.trans (hb.mono HB.out.size))
    have HM := Hid.mk' (HM.out.below hb)
    have HV := Hid.mk' (rowB HV.out hb)
    have HT := Hid.mk' (HT.out.below hb)
    have HX := Hid.mk' (rowB HX.out hb)
    have HR := Hid.mk' (rowB HR.out hb)
    obtain ⟨x0, x1, x2, x3⟩ := cellsP HX.out
    obtain ⟨y0, y1, y2⟩ := cellsQ2 HR.out
    obtain ⟨f0, f1⟩ := frzQ2 HR.out
    clear hb KH
    go_wp2
    refine bodyPost_ret (v := .agg #[.int .i64 4, .slice none 0 0]) (by simp [results, Tryz.results54, go_sem, *]) rfl ?_
    exact kqP_nil E.out ((HB.out.setCell (p := ⟨w.heap.size + 1, 0, none⟩) (by simp) _).setCell (p := ⟨w.heap.size + 1, 1, none⟩) (by simp) _)
  rw [ha] at KH
  have KH := Hid.mk' KH
  have HN : Hid (hasL attrsL n = true) := Hid.mk' (by rw [Bool.and_eq_true] at ha; exact ha.2)
  cases hw : isW n
  rotate_left
  · have E := Hid.mk' (krF_width (l := l) ha hw)
    have hwn : (n.toList == [119, 105, 100, 116, 104]) = true := hw
    clear hw ha
    generalize krF p n l = R at *
    go_enter Tryz.func54, Tryz.ntmps54
    go_wp2_with fail
    clear hW x0 x1 x2 x3
    refine KH.out.mono ?_
    rintro e w1 ⟨rfl, hb⟩
    have HB := Hid.mk' (HB.out.trans (hb.mono HB.out.size))
    have HM := Hid.mk' (HM.out.below hb)
    have HV := Hid.mk' (rowB HV.out hb)
    have HT := Hid.mk' (HT.out.below hb)
    have HX := Hid.mk' (rowB HX.out hb)
    have HR := Hid.mk' (rowB HR.out hb)
    obtain ⟨x0, x1, x2, x3⟩ := cellsP HX.out
    obtain ⟨y0, y1, y2⟩ := cellsQ2 HR.out
    obtain ⟨f0, f1⟩ := frzQ2 HR.out
    clear hb KH
    have KW := Hid.mk' (keptWidth_any (some ⟨g, 0, none⟩) c l w1 (.of_row HV.out) hl HT.out)
    generalize kwF (strS l) = R2 at *
    go_wp2_with fail
    refine KW.out.mono ?_
    rintro e w2 ⟨v, c', rfl, hat, hfa, hfr, hb⟩
    have HF := Hid.mk' hfr
    have HFA := Hid.mk' hfa
    have HY := Hid.mk' y2
    have HB := Hid.mk' (HB.out.trans (hb.mono HB.out.size))
    have HAT := Hid.mk' hat
    obtain ⟨z0, z1, z2⟩ := cellsQ2 (rowB HR.out hb)
    obtain ⟨g0, g1⟩ := frzQ2 (rowB HR.out hb)
    clear hb hat hfr hfa KW
    go_wp2
    refine bodyPost_ret (v := .agg #[.int .i64 R2.1, .slice v R2.2.length c']) (by simp [results, Tryz.results54, go_sem, *]) rfl ?_
    refine ⟨v, c', by rw [E.out], ?_, by rw [E.out]; exact HFA.out.setTwo, (fun b o e => by have := HF.out b o e; have := HY.out; omega), (HB.out.setCell (p := ⟨w.heap.size + 1, 0, none⟩) (by simp) _).setCell (p := ⟨w.heap.size + 1, 1, none⟩) (by simp) _⟩
    rw [E.out]
    exact HAT.out.setTwo (fun b o e _ => by have := HF.out b o e; have := HY.out; omega)
  have hwn : (n.toList == [119, 105, 100, 116, 104]) = false := hw
  have hT := name_of HN.out hw
  cases hc8 : clB l
  · have E := Hid.mk' (krF_code (kv_text ha hw hc8))
    clear ha hw hT
    generalize krF p n l = R at *
    go_enter Tryz.func54, Tryz.ntmps54
    go_wp2_with fail
    clear hW x0 x1 x2 x3
    refine KH.out.mono ?_
    rintro e w1 ⟨rfl, hb⟩
    have HB := Hid.mk' (HB.out.trans (hb.mono HB.out.size))
    have HM := Hid.mk' (HM.out.below hb)
    have HV := Hid.mk' (rowB HV.out hb)
    have HT := Hid.mk' (HT.out.below hb)
    have HX := Hid.mk' (rowB HX.out hb)
    have HR := Hid.mk' (rowB HR.out hb)
    obtain ⟨x0, x1, x2, x3⟩ := cellsP HX.out
    obtain ⟨y0, y1, y2⟩ := cellsQ2 HR.out
    obtain ⟨f0, f1⟩ := frzQ2 HR.out
    clear hb KH
    have KC := isClean_any (some ⟨g, 0, none⟩) c l w1 (.of_row HV.out) hl
    rw [hc8] at KC
    have KC := Hid.mk' KC
    go_wp2_with fail
    refine KC.out.mono ?_
    rintro e w2 ⟨rfl, hww⟩
    obtain rfl := hww.symm
    clear KC hc8
    go_wp2
    refine bodyPost_ret (v := .agg #[.int .i64 5, .slice none 0 0]) (by simp [results, Tryz.results54, go_sem, *]) rfl ?_
    exact kqP_nil E.out ((HB.out.setCell (p := ⟨w.heap.size + 1, 0, none⟩) (by simp) _).setCell (p := ⟨w.heap.size + 1, 1, none⟩) (by simp) _)
  cases hh : isHr n
  rotate_left
  · have hhn : (n.toList == [104, 114, 101, 102]) = true := hh
    have hLL : (isHr n || isSr n) = true := by rw [hh]; rfl
    clear hh
    have hTT : isT n = false := by rw [hT, hLL]; rfl
    cases hB : urlB p l
    · have E := Hid.mk' (krF_code (kv_state ha hw hc8 (by rw [hTT, hB]; rfl)))
      clear ha hw hT hLL hTT
      generalize krF p n l = R at *
      go_enter Tryz.func54, Tryz.ntmps54
      go_wp2_with fail
      clear hW x0 x1 x2 x3
      refine KH.out.mono ?_
      rintro e w1 ⟨rfl, hb⟩
      have HB := Hid.mk' (HB.out.trans (hb.mono HB.out.size))
      have HM := Hid.mk' (HM.out.below hb)
      have HV := Hid.mk' (rowB HV.out hb)
      have HT := Hid.mk' (HT.out.below hb)
      have HX := Hid.mk' (rowB HX.out hb)
      have HR := Hid.mk' (rowB HR.out hb)
      obtain ⟨x0, x1, x2, x3⟩ := cellsP HX.out
      obtain ⟨y0, y1, y2⟩ := cellsQ2 HR.out
      obtain ⟨f0, f1⟩ := frzQ2 HR.out
      clear hb KH
      have KC := isClean_any (some ⟨g, 0, none⟩) c l w1 (.of_row HV.out) hl
      rw [hc8] at KC
      have KC := Hid.mk' KC
      go_wp2_with fail
      refine KC.out.mono ?_
      rintro e w2 ⟨rfl, hww⟩
      obtain rfl := hww.symm
      have KL := mayLink_any p b1 b2 b3 g c lo l w1 HM.out HV.out hc hc8 HU.out
      rw [hB] at KL
      have KL := Hid.mk' KL
      clear hc8 hB
      go_wp2_with fail
      refine KL.out.mono ?_
      rintro e w3 ⟨rfl, hb⟩
      have HB := Hid.mk' (HB.out.trans (hb.mono HB.out.size))
      have HV := Hid.mk' (rowB HV.out hb)
      have HR := Hid.mk' (rowB HR.out hb)
      clear x0 x1 x2 x3 y0 y1 y2 f0 f1
      obtain ⟨y0, y1, y2⟩ := cellsQ2 HR.out
      obtain ⟨f0, f1⟩ := frzQ2 HR.out
      clear hb KL
      go_wp2
      refine bodyPost_ret (v := .agg #[.int .i64 7, .slice none 0 0]) (by simp [results, Tryz.results54, go_sem, *]) rfl ?_
      exact kqP_nil E.out ((HB.out.setCell (p := ⟨w.heap.size + 1, 0, none⟩) (by simp) _).setCell (p := ⟨w.heap.size + 1, 1, none⟩) (by simp) _)
    · have E := Hid.mk' (krF_same (kv_same ha hw hc8 (by rw [hTT, hB]; rfl)))
      clear ha hw hT hLL hTT
      generalize krF p n l = R at *
      go_enter Tryz.func54, Tryz.ntmps54
      go_wp2_with fail
      clear hW x0 x1 x2 x3
      refine KH.out.mono ?_
      rintro e w1 ⟨rfl, hb⟩
      have HB := Hid.mk' (HB.out.trans (hb.mono HB.out.size))
      have HM := Hid.mk' (HM.out.below hb)
      have HV := Hid.mk' (rowB HV.out hb)
      have HT := Hid.mk' (HT.out.below hb)
      have HX := Hid.mk' (rowB HX.out hb)
      have HR := Hid.mk' (rowB HR.out hb)
      obtain ⟨x0, x1, x2, x3⟩ := cellsP HX.out
      obtain ⟨y0, y1, y2⟩ := cellsQ2 HR.out
      obtain ⟨f0, f1⟩ := frzQ2 HR.out
      clear hb KH
      have KC := isClean_any (some ⟨g, 0, none⟩) c l w1 (.of_row HV.out) hl
      rw [hc8] at KC
      have KC := Hid.mk' KC
      go_wp2_with fail
      refine KC.out.mono ?_
      rintro e w2 ⟨rfl, hww⟩
      obtain rfl := hww.symm
      have KL := mayLink_any p b1 b2 b3 g c lo l w1 HM.out HV.out hc hc8 HU.out
      rw [hB] at KL
      have KL := Hid.mk' KL
      clear hc8 hB
      go_wp2_with fail
      refine KL.out.mono ?_
      rintro e w3 ⟨rfl, hb⟩
      have HB := Hid.mk' (HB.out.trans (hb.mono HB.out.size))
      have HV := Hid.mk' (rowB HV.out hb)
      have HR := Hid.mk' (rowB HR.out hb)
      clear x0 x1 x2 x3 y0 y1 y2 f0 f1
      obtain ⟨y0, y1, y2⟩ := cellsQ2 HR.out
      obtain ⟨f0, f1⟩ := frzQ2 HR.out
      clear hb KL
      have KY := Hid.mk' (copyBytes_any (some ⟨g, 0, none⟩) c l w3 (.of_row HV.out) hl)
      go_wp2_with fail
      refine KY.out.mono ?_
      rintro e w4 ⟨h, rfl, hge, hrow, hb⟩
      have HB := Hid.mk' (HB.out.trans (hb.mono HB.out.size))
      have HAT := Hid.mk' (show BAt w4 (some ⟨h, 0, none⟩) l from .of_row hrow)
      have HG := Hid.mk' hge
      have HFA : Hid (FrA w4 (some ⟨h, 0, none⟩) l.length) := Hid.mk' (.row hrow)
      have HY := Hid.mk' y2
      obtain ⟨z0, z1, z2⟩ := cellsQ2 (rowB HR.out hb)
      obtain ⟨g0, g1⟩ := frzQ2 (rowB HR.out hb)
      clear hb hrow hge KY
      go_wp2
      refine bodyPost_ret (v := .agg #[.int .i64 0, .slice (some ⟨h, 0, none⟩) l.length l.length]) (by simp [results, Tryz.results54, go_sem, *]) rfl ?_
      refine ⟨some ⟨h, 0, none⟩, l.length, by rw [E.out], ?_, by rw [E.out]; exact HFA.out.setTwo, (fun b o e => by cases e; have := HG.out; have := HY.out; omega), (HB.out.setCell (p := ⟨w.heap.size + 1, 0, none⟩) (by simp) _).setCell (p := ⟨w.heap.size + 1, 1, none⟩) (by simp) _⟩
      rw [E.out]
      exact HAT.out.setTwo (fun b o e _ => by cases e; have := HG.out; have := HY.out; omega)
  have hhn : (n.toList == [104, 114, 101, 102]) = false := hh
  cases hs : isSr n
  rotate_left
  · have hsn : (n.toList == [115, 114, 99]) = true := hs
    have hLL : (isHr n || isSr n) = true := by rw [hh, hs]; rfl
    clear hh hs
    have hTT : isT n = false := by rw [hT, hLL]; rfl
    cases hB : urlB p l
    · have E := Hid.mk' (krF_code (kv_state ha hw hc8 (by rw [hTT, hB]; rfl)))
      clear ha hw hT hLL hTT
      generalize krF p n l = R at *
      go_enter Tryz.func54, Tryz.ntmps54
      go_wp2_with fail
      clear hW x0 x1 x2 x3
      refine KH.out.mono ?_
      rintro e w1 ⟨rfl, hb⟩
      have HB := Hid.mk' (HB.out.trans (hb.mono HB.out.size))
      have HM := Hid.mk' (HM.out.below hb)
      have HV := Hid.mk' (rowB HV.out hb)
      have HT := Hid.mk' (HT.out.below hb)
      have HX := Hid.mk' (rowB HX.out hb)
      have HR := Hid.mk' (rowB HR.out hb)
      obtain ⟨x0, x1, x2, x3⟩ := cellsP HX.out
      obtain ⟨y0, y1, y2⟩ := cellsQ2 HR.out
      obtain ⟨f0, f1⟩ := frzQ2 HR.out
      clear hb KH
      have KC := isClean_any (some ⟨g, 0, none⟩) c l w1 (.of_row HV.out) hl
      rw [hc8] at KC
      have KC := Hid.mk' KC
      go_wp2_with fail
      refine KC.out.mono ?_
      rintro e w2 ⟨rfl, hww⟩
      obtain rfl := hww.symm
      have KL := mayLink_any p b1 b2 b3 g c lo l w1 HM.out HV.out hc hc8 HU.out
      rw [hB] at KL
      have KL := Hid.mk' KL
      clear hc8 hB
      go_wp2_with fail
      refine KL.out.mono ?_
      rintro e w3 ⟨rfl, hb⟩
      have HB := Hid.mk' (HB.out.trans (hb.mono HB.out.size))
      have HV := Hid.mk' (rowB HV.out hb)
      have HR := Hid.mk' (rowB HR.out hb)
      clear x0 x1 x2 x3 y0 y1 y2 f0 f1
      obtain ⟨y0, y1, y2⟩ := cellsQ2 HR.out
      obtain ⟨f0, f1⟩ := frzQ2 HR.out
      clear hb KL
      go_wp2
      refine bodyPost_ret (v := .agg #[.int .i64 7, .slice none 0 0]) (by simp [results, Tryz.results54, go_sem, *]) rfl ?_
      exact kqP_nil E.out ((HB.out.setCell (p := ⟨w.heap.size + 1, 0, none⟩) (by simp) _).setCell (p := ⟨w.heap.size + 1, 1, none⟩) (by simp) _)
    · have E := Hid.mk' (krF_same (kv_same ha hw hc8 (by rw [hTT, hB]; rfl)))
      clear ha hw hT hLL hTT
      generalize krF p n l = R at *
      go_enter Tryz.func54, Tryz.ntmps54
      go_wp2_with fail
      clear hW x0 x1 x2 x3
      refine KH.out.mono ?_
      rintro e w1 ⟨rfl, hb⟩
      have HB := Hid.mk' (HB.out.trans (hb.mono HB.out.size))
      have HM := Hid.mk' (HM.out.below hb)
      have HV := Hid.mk' (rowB HV.out hb)
      have HT := Hid.mk' (HT.out.below hb)
      have HX := Hid.mk' (rowB HX.out hb)
      have HR := Hid.mk' (rowB HR.out hb)
      obtain ⟨x0, x1, x2, x3⟩ := cellsP HX.out
      obtain ⟨y0, y1, y2⟩ := cellsQ2 HR.out
      obtain ⟨f0, f1⟩ := frzQ2 HR.out
      clear hb KH
      have KC := isClean_any (some ⟨g, 0, none⟩) c l w1 (.of_row HV.out) hl
      rw [hc8] at KC
      have KC := Hid.mk' KC
      go_wp2_with fail
      refine KC.out.mono ?_
      rintro e w2 ⟨rfl, hww⟩
      obtain rfl := hww.symm
      have KL := mayLink_any p b1 b2 b3 g c lo l w1 HM.out HV.out hc hc8 HU.out
      rw [hB] at KL
      have KL := Hid.mk' KL
      clear hc8 hB
      go_wp2_with fail
      refine KL.out.mono ?_
      rintro e w3 ⟨rfl, hb⟩
      have HB := Hid.mk' (HB.out.trans (hb.mono HB.out.size))
      have HV := Hid.mk' (rowB HV.out hb)
      have HR := Hid.mk' (rowB HR.out hb)
      clear x0 x1 x2 x3 y0 y1 y2 f0 f1
      obtain ⟨y0, y1, y2⟩ := cellsQ2 HR.out
      obtain ⟨f0, f1⟩ := frzQ2 HR.out
      clear hb KL
      have KY := Hid.mk' (copyBytes_any (some ⟨g, 0, none⟩) c l w3 (.of_row HV.out) hl)
      go_wp2_with fail
      refine KY.out.mono ?_
      rintro e w4 ⟨h, rfl, hge, hrow, hb⟩
      have HB := Hid.mk' (HB.out.trans (hb.mono HB.out.size))
      have HAT := Hid.mk' (show BAt w4 (some ⟨h, 0, none⟩) l from .of_row hrow)
      have HG := Hid.mk' hge
      have HFA : Hid (FrA w4 (some ⟨h, 0, none⟩) l.length) := Hid.mk' (.row hrow)
      have HY := Hid.mk' y2
      obtain ⟨z0, z1, z2⟩ := cellsQ2 (rowB HR.out hb)
      obtain ⟨g0, g1⟩ := frzQ2 (rowB HR.out hb)
      clear hb hrow hge KY
      go_wp2
      refine bodyPost_ret (v := .agg #[.int .i64 0, .slice (some ⟨h, 0, none⟩) l.length l.length]) (by simp [results, Tryz.results54, go_sem, *]) rfl ?_
      refine ⟨some ⟨h, 0, none⟩, l.length, by rw [E.out], ?_, by rw [E.out]; exact HFA.out.setTwo, (fun b o e => by cases e; have := HG.out; have := HY.out; omega), (HB.out.setCell (p := ⟨w.heap.size + 1, 0, none⟩) (by simp) _).setCell (p := ⟨w.heap.size + 1, 1, none⟩) (by simp) _⟩
      rw [E.out]
      exact HAT.out.setTwo (fun b o e _ => by cases e; have := HG.out; have := HY.out; omega)
  · have hsn : (n.toList == [115, 114, 99]) = false := hs
    have hLL : (isHr n || isSr n) = false := by rw [hh, hs]; rfl
    have hTT : isT n = true := by rw [hT, hLL]; rfl
    have E := Hid.mk' (krF_same (kv_same ha hw hc8 (by rw [hTT]; rfl)))
    clear ha hw hT hLL hTT hh hs
    generalize krF p n l = R at *
    go_enter Tryz.func54, Tryz.ntmps54
    go_wp2_with fail
    clear hW x0 x1 x2 x3
    refine KH.out.mono ?_
    rintro e w1 ⟨rfl, hb⟩
    have HB := Hid.mk' (HB.out.trans (hb.mono HB.out.size))
    have HM := Hid.mk' (HM.out.below hb)
    have HV := Hid.mk' (rowB HV.out hb)
    have HT := Hid.mk' (HT.out.below hb)
    have HX := Hid.mk' (rowB HX.out hb)
    have HR := Hid.mk' (rowB HR.out hb)
    obtain ⟨x0, x1, x2, x3⟩ := cellsP HX.out
    obtain ⟨y0, y1, y2⟩ := cellsQ2 HR.out
    obtain ⟨f0, f1⟩ := frzQ2 HR.out
    clear hb KH
    have KC := isClean_any (some ⟨g, 0, none⟩) c l w1 (.of_row HV.out) hl
    rw [hc8] at KC
    have KC := Hid.mk' KC
    go_wp2_with fail
    refine KC.out.mono ?_
    rintro e w2 ⟨rfl, hww⟩
    obtain rfl := hww.symm
    clear hc8
    have KY := Hid.mk' (copyBytes_any (some ⟨g, 0, none⟩) c l w1 (.of_row HV.out) hl)
    go_wp2_with fail
    refine KY.out.mono ?_
    rintro e w4 ⟨h, rfl, hge, hrow, hb⟩
    have HB := Hid.mk' (HB.out.trans (hb.mono HB.out.size))
    have HAT := Hid.mk' (show BAt w4 (some ⟨h, 0, none⟩) l from .of_row hrow)
    have HG := Hid.mk' hge
    have HFA : Hid (FrA w4 (some ⟨h, 0, none⟩) l.length) := Hid.mk' (.row hrow)
    have HY := Hid.mk' y2
    obtain ⟨z0, z1, z2⟩ := cellsQ2 (rowB HR.out hb)
    obtain ⟨g0, g1⟩ := frzQ2 (rowB HR.out hb)
    clear hb hrow hge KY
    go_wp2
    refine bodyPost_ret (v := .agg #[.int .i64 0, .slice (some ⟨h, 0, none⟩) l.length l.length]) (by simp [results, Tryz.results54, go_sem, *]) rfl ?_
    refine ⟨some ⟨h, 0, none⟩, l.length, by rw [E.out], ?_, by rw [E.out]; exact HFA.out.setTwo, (fun b o e => by cases e; have := HG.out; have := HY.out; omega), (HB.out.setCell (p := ⟨w.heap.size + 1, 0, none⟩) (by simp) _).setCell (p := ⟨w.heap.size + 1, 1, none⟩) (by simp) _⟩
    rw [E.out]
    exact HAT.out.setTwo (fun b o e _ => by cases e; have := HG.out; have := HY.out; omega)

end Go.Proofs.YtfdcfajliofbfaaGreatDoor

/- KeptValue and MayValue: the program's side, whole. -/
namespace Go.Proofs.YtfdcfajliofbfaaGreatDoor
open Go.RowKit Go.Maps
set_option linter.unusedVariables false
set_option linter.unusedSimpArgs false

theorem bytesEqualS_any (a b : Option Addr) (c d : Nat) (l m : List Int) (w : World) (h1 : BAt w a l) (h2 : BAt w b m) :
    Calls Tryz.prog 58 #[.slice a l.length c, .slice b m.length d] w fun e w' => e = .returned (.bool ((strS l).toList == (strS m).toList)) ∧ w' = w := by
  have c1 := conv_bytesS c h1
  have c2 := conv_bytesS d h2
  clear h1 h2
  go_enter Tryz.func58, Tryz.ntmps58
  go_wp2
  go_ret
  exact ⟨rfl, rfl⟩

set_option maxRecDepth 100000 in
set_option maxHeartbeats 3200000 in
theorem implKV_any (p : PO) (a b c : Option Addr) (n1 n2 n3 g d : Nat) (n : ByteArray) (l : List Int) (w : World) (ha : POAt w a b c p) (hp : (psz p : Int) ≤ 1048576) (hr : w.rowIs g 5 l.length (bv l)) (hd : l.length ≤ d) (hn : (n.size : Int) ≤ 1048576) (hu : ∀ k, k < l.length → 0 ≤ l.getD k 0 ∧ l.getD k 0 ≤ 255) (hl : (l.length : Int) ≤ 1048576) (t : TBS w) :
    Calls Tryz.prog 15 #[.agg #[.slice a p.tg.length n1, .slice b p.at_.length n2, .slice c p.sc.length n3], .string n, .slice (some ⟨g, 0, none⟩) l.length d] w fun e w' => KqP (kvP p n l) w e w' := by
  obtain ⟨N0, RX, RR⟩ := boxesK w (.slice a p.tg.length n1) (.slice b p.at_.length n2) (.slice c p.sc.length n3)
  have KP := Hid.mk' (permitOf_any p a b c n1 n2 n3 _ (ha.below N0) hp)
  have HB := Hid.mk' N0
  have HV := Hid.mk' (rowB hr N0)
  have HT := Hid.mk' (t.below N0)
  have HR := Hid.mk' RR
  have HU := Hid.mk' hu
  obtain ⟨x0, x1, x2, x3⟩ := cellsP RX
  clear ha hr t N0 RX RR hu
  generalize hW : (w.alloc (.cells #[.slice a p.tg.length n1, .slice b p.at_.length n2, .slice c p.sc.length n3] 35)).alloc (.cells #[.int .i64 0, .slice none 0 0] 33) = W at *
  go_enter Tryz.func15, Tryz.ntmps15
  go_wp2_with fail
  clear hW x0 x1 x2 x3
  refine KP.out.mono ?_
  rintro e w1 (⟨hp0, rfl, hb⟩ | ⟨hp0, b1, b2, b3, rfl, pm, hb⟩)
  · have E := Hid.mk' (kvP_bad (n := n) (l := l) hp0)
    have N1 := below_new w1 (.cells #[.map none, .map none, .map none] 89)
    have B1 := hb.trans (N1.mono hb.size)
    have HB := Hid.mk' (HB.out.trans (B1.mono HB.out.size))
    obtain ⟨y0, y1, y2⟩ := cellsQ2 (rowB HR.out B1)
    obtain ⟨f0, f1⟩ := frzQ2 (rowB HR.out B1)
    have h0b : (polF p != 0) = true := by simp [hp0]
    clear hb KP hp0 N1 B1
    generalize polF p = pf at *
    go_wp2
    refine bodyPost_ret (v := .agg #[.int .i64 pf, .slice none 0 0]) (by simp [results, Tryz.results15, go_sem, *]) rfl ?_
    exact kqP_nil E.out ((HB.out.setCell (p := ⟨w.heap.size + 1, 0, none⟩) (by simp) _).setCell (p := ⟨w.heap.size + 1, 1, none⟩) (by simp) _)
  · have E := Hid.mk' (kvP_kr (n := n) (l := l) hp0)
    have N1 := below_new w1 (.cells #[.map (some b1), .map (some b2), .map (some b3)] 89)
    have B1 := hb.trans (N1.mono hb.size)
    have HB := Hid.mk' (HB.out.trans (B1.mono HB.out.size))
    have HR := Hid.mk' (rowB HR.out B1)
    have KK := Hid.mk' (keptValue_any p b1 b2 b3 g d _ n l _ (pm.below N1) (rowB HV.out B1) hd hn HU.out hl (HT.out.below B1))
    obtain ⟨y0, y1, y2⟩ := cellsQ2 HR.out
    obtain ⟨f0, f1⟩ := frzQ2 HR.out
    obtain ⟨x0, x1, x2, x3⟩ := cellsP (row3 w1 89 (.map (some b1)) (.map (some b2)) (.map (some b3)))
    clear hb KP hp0 N1 B1 pm
    generalize krF p n l = R2 at *
    generalize hW1 : w1.alloc (.cells #[.map (some b1), .map (some b2), .map (some b3)] 89) = W1 at *
    have HY := Hid.mk' y2
    go_wp2_with fail
    clear hW1
    refine KK.out.mono ?_
    rintro e w2 ⟨v, c', rfl, hat, hfa, hfr, hb⟩
    have HF := Hid.mk' hfr
    have HFA := Hid.mk' hfa
    have HB := Hid.mk' (HB.out.trans (hb.mono HB.out.size))
    have HAT := Hid.mk' hat
    clear y0 y1 y2 f0 f1 x0 x1 x2 x3
    obtain ⟨z0, z1, z2⟩ := cellsQ2 (rowB HR.out hb)
    obtain ⟨g0, g1⟩ := frzQ2 (rowB HR.out hb)
    clear hb hat hfr hfa KK
    go_wp2
    refine bodyPost_ret (v := .agg #[.int .i64 R2.1, .slice v R2.2.length c']) (by simp [results, Tryz.results15, go_sem, *]) rfl ?_
    refine ⟨v, c', by rw [E.out], ?_, by rw [E.out]; exact HFA.out.setTwo, (fun b o e => by have := HF.out b o e; have := HY.out; omega), (HB.out.setCell (p := ⟨w.heap.size + 1, 0, none⟩) (by simp) _).setCell (p := ⟨w.heap.size + 1, 1, none⟩) (by simp) _⟩
    rw [E.out]
    exact HAT.out.setTwo (fun b o e _ => by have := HF.out b o e; have := HY.out; omega)

set_option maxRecDepth 100000 in
set_option maxHeartbeats 1600000 in
theorem implMV_any (p : PO) (a b c : Option Addr) (n1 n2 n3 g d : Nat) (n : ByteArray) (l : List Int) (w : World) (ha : POAt w a b c p) (hp : (psz p : Int) ≤ 1048576) (hr : w.rowIs g 5 l.length (bv l)) (hd : l.length ≤ d) (hn : (n.size : Int) ≤ 1048576) (hu : ∀ k, k < l.length → 0 ≤ l.getD k 0 ∧ l.getD k 0 ≤ 255) (hl : (l.length : Int) ≤ 1048576) (t : TBS w) :
    Calls Tryz.prog 24 #[.agg #[.slice a p.tg.length n1, .slice b p.at_.length n2, .slice c p.sc.length n3], .string n, .slice (some ⟨g, 0, none⟩) l.length d] w fun e w' => e = .returned (.bool (mvB p n l)) ∧ Below w.heap.size w w' := by
  have N0 := below_new w (.cells #[.slice a p.tg.length n1, .slice b p.at_.length n2, .slice c p.sc.length n3] 35)
  have KV := Hid.mk' (implKV_any p a b c n1 n2 n3 g d n l _ (ha.below N0) hp (rowB hr N0) hd hn hu hl (t.below N0))
  have HX := Hid.mk' (row3 w 35 (.slice a p.tg.length n1) (.slice b p.at_.length n2) (.slice c p.sc.length n3))
  have HV := Hid.mk' (rowB hr N0)
  have HB := Hid.mk' N0
  have HM := Hid.mk' (show mvB p n l = (decide ((kvP p n l).1 = 0) && ((strS (kvP p n l).2).toList == (strS l).toList)) from rfl)
  clear ha hr hu t N0
  generalize mvB p n l = B at *
  generalize hW : w.alloc (.cells #[.slice a p.tg.length n1, .slice b p.at_.length n2, .slice c p.sc.length n3] 35) = W at *
  obtain ⟨x0, x1, x2, x3⟩ := cellsP HX.out
  go_enter Tryz.func24, Tryz.ntmps24
  go_wp2_with fail
  clear hW
  refine KV.out.mono ?_
  rintro e w1 ⟨v, c', rfl, hat, hfa, hfr, hb1⟩
  have N1 := below_new w1 (.cells #[.int .i64 (kvP p n l).1, .slice v (kvP p n l).2.length c'] 33)
  have B1 := hb1.trans (N1.mono hb1.size)
  have HB1 := Hid.mk' (HB.out.trans (B1.mono HB.out.size))
  have KE := Hid.mk' (bytesEqualS_any v (some ⟨g, 0, none⟩) c' d (kvP p n l).2 l _ (hat.below N1) (.of_row (rowB HV.out B1)))
  obtain ⟨y0, y1, y2⟩ := cellsQ2 (rowQ2 w1 33 (.int .i64 (kvP p n l).1) (.slice v (kvP p n l).2.length c'))
  clear hb1 N1 B1 hat hfa hfr x0 x1 x2 x3 KV
  generalize hW1 : w1.alloc (.cells #[.int .i64 (kvP p n l).1, .slice v (kvP p n l).2.length c'] 33) = W1 at *
  generalize (kvP p n l).1 = C at *
  generalize hk2 : (kvP p n l).2 = K2 at *
  clear hk2
  by_cases h0 : C = 0
  · have h0b : (C == 0) = true := by rw [beq_iff_eq]; exact h0
    have HM2 : Hid (B = ((strS K2).toList == (strS l).toList)) := Hid.mk' (by rw [HM.out, decide_eq_true h0, Bool.true_and])
    clear h0 HM
    go_wp2_with fail
    clear hW1
    refine KE.out.mono ?_
    rintro e w2 ⟨rfl, hww⟩
    obtain rfl := hww.symm
    generalize ((strS K2).toList == (strS l).toList) = B2 at *
    go_wp2
    go_ret
    exact ⟨by rw [HM2.out]; rfl, HB1.out⟩
  · have h0b : (C == 0) = false := by rw [beq_eq_false_iff_ne]; exact h0
    have HM2 : Hid (B = false) := Hid.mk' (by rw [HM.out, decide_eq_false h0, Bool.false_and])
    clear h0 HM
    go_wp2
    go_ret
    exact ⟨by rw [HM2.out]; rfl, HB1.out⟩

end Go.Proofs.YtfdcfajliofbfaaGreatDoor

/- The law on MayValue. -/
namespace Go.Proofs.YtfdcfajliofbfaaGreatDoor
open Go.RowKit Go.Maps
set_option linter.unusedVariables false
set_option linter.unusedSimpArgs false

set_option maxRecDepth 100000 in
set_option maxHeartbeats 3200000 in
theorem lawMV_any (p : PO) (a b c : Option Addr) (n1 n2 n3 : Nat) (t : ByteArray) (q : Option Addr) (d : Nat) (l : List Int) (w : World) (ha : POAt w a b c p) (hw : WideP p) (ht : (t.size : Int) ≤ 9223372036854775807) (hq : BAt w q l) (hu : ∀ k, k < l.length → 0 ≤ l.getD k 0 ∧ l.getD k 0 ≤ 255) (hm : (l.length : Int) ≤ 9223372036854775807) (tb : TBS w) :
    Calls Tryz.prog 5 #[.agg #[.slice a p.tg.length n1, .slice b p.at_.length n2, .slice c p.sc.length n3], .string t, .slice q l.length d] w fun e w' => e = .returned (.bool true) ∧ Below w.heap.size w w' := by
  have N0 := below_new w (.cells #[.slice a p.tg.length n1, .slice b p.at_.length n2, .slice c p.sc.length n3] 29)
  have KS := szPolicy_any p a b c n1 n2 n3 _ (ha.below N0) hw
  have HP := Hid.mk' (row3 w 29 (.slice a p.tg.length n1) (.slice b p.at_.length n2) (.slice c p.sc.length n3))
  have HA := Hid.mk' (ha.below N0)
  have HQ := Hid.mk' (hq.below N0)
  have HT := Hid.mk' (tb.below N0)
  have HB := Hid.mk' N0
  have HU := Hid.mk' hu
  clear ha N0 hw hq tb hu
  generalize hW : w.alloc (.cells #[.slice a p.tg.length n1, .slice b p.at_.length n2, .slice c p.sc.length n3] 29) = W at *
  obtain ⟨c0, c1, c2, c3⟩ := cellsP HP.out
  by_cases wide : (t.size : Int) > 1048576
  · go_enter Tryz.func5, Tryz.ntmps5
    go_wp2
    go_ret
    exact ⟨rfl, HB.out⟩
  have tl : (t.size : Int) ≤ 1048576 := by omega
  by_cases wideL : (l.length : Int) > 1048576
  · go_enter Tryz.func5, Tryz.ntmps5
    go_wp2
    go_ret
    exact ⟨rfl, HB.out⟩
  have ll : (l.length : Int) ≤ 1048576 := by omega
  by_cases big : 1048576 < (psz p : Int)
  · rw [if_pos big] at KS
    have KS := Hid.mk' KS
    go_enter Tryz.func5, Tryz.ntmps5
    go_wp2_with fail
    refine KS.out.mono ?_
    rintro e w1 ⟨rfl, hb⟩
    have HB := Hid.mk' (HB.out.trans (hb.mono HB.out.size))
    clear hb KS
    go_wp2
    go_ret
    exact ⟨rfl, HB.out⟩
  rw [if_neg big] at KS
  have KS := Hid.mk' KS
  have zz : ¬ (1048576 - (psz p : Int) < 0) := by omega
  have hl : (psz p : Int) ≤ 1048576 := by omega
  go_enter Tryz.func5, Tryz.ntmps5
  go_wp2_with fail
  clear hW
  refine KS.out.mono ?_
  rintro e w1 ⟨rfl, hb⟩
  have HP := Hid.mk' (rowB HP.out hb)
  have HA := Hid.mk' (HA.out.below hb)
  have HQ := Hid.mk' (HQ.out.below hb)
  have HT := Hid.mk' (HT.out.below hb)
  have HB := Hid.mk' (HB.out.trans (hb.mono HB.out.size))
  clear hb KS c0 c1 c2 c3 big wide wideL
  obtain ⟨c0, c1, c2, c3⟩ := cellsP HP.out
  go_wp2_with fail
  clear zz
  refine (toPolicy_at p a b c n1 n2 n3 w1 HA.out hl).mono ?_
  rintro e w2 ⟨g1, g2, g3, rfl, t1, hb⟩
  have HP := Hid.mk' (rowB HP.out hb)
  have HA := Hid.mk' (HA.out.below hb)
  have HQ := Hid.mk' (HQ.out.below hb)
  have HT := Hid.mk' (HT.out.below hb)
  have HB := Hid.mk' (HB.out.trans (hb.mono HB.out.size))
  have T1 := Hid.mk' t1
  clear hb t1 c0 c1 c2 c3
  go_wp2_with fail
  refine (toByteS_any q d l w2 HQ.out ll).mono ?_
  rintro e w3 ⟨v1, rfl, _, rv, hb⟩
  have HP := Hid.mk' (rowB HP.out hb)
  have HA := Hid.mk' (HA.out.below hb)
  have HQ := Hid.mk' (HQ.out.below hb)
  have HT := Hid.mk' (HT.out.below hb)
  have HB := Hid.mk' (HB.out.trans (hb.mono HB.out.size))
  have T1 := Hid.mk' (T1.out.below hb)
  have V1 := Hid.mk' rv
  clear hb rv
  go_wp2_with fail
  refine (specMV_any p _ _ _ _ _ _ t _ _ l w3 T1.out hl (.of_row V1.out) HU.out ll).mono ?_
  rintro e w4 ⟨rfl, hb⟩
  have HP := Hid.mk' (rowB HP.out hb)
  have HA := Hid.mk' (HA.out.below hb)
  have HQ := Hid.mk' (HQ.out.below hb)
  have HT := Hid.mk' (HT.out.below hb)
  have HB := Hid.mk' (HB.out.trans (hb.mono HB.out.size))
  clear hb T1 V1
  obtain ⟨c0, c1, c2, c3⟩ := cellsP HP.out
  go_wp2_with fail
  refine (toPolicy_at p a b c n1 n2 n3 w4 HA.out hl).mono ?_
  rintro e w5 ⟨h1, h2, h3, rfl, t2, hb⟩
  have N4 := below_new w5 (.cells #[.slice (some ⟨h1, 0, none⟩) p.tg.length p.tg.length, .slice (some ⟨h2, 0, none⟩) p.at_.length p.at_.length, .slice (some ⟨h3, 0, none⟩) p.sc.length p.sc.length] 35)
  have M4 := hb.trans (N4.mono hb.size)
  have HP := Hid.mk' (rowB HP.out M4)
  have HA := Hid.mk' (HA.out.below M4)
  have HQ := Hid.mk' (HQ.out.below M4)
  have HT := Hid.mk' (HT.out.below M4)
  have HB := Hid.mk' (HB.out.trans (M4.mono HB.out.size))
  have T2 := Hid.mk' (t2.below N4)
  have HX := Hid.mk' (row3 w5 35 (.slice (some ⟨h1, 0, none⟩) p.tg.length p.tg.length) (.slice (some ⟨h2, 0, none⟩) p.at_.length p.at_.length) (.slice (some ⟨h3, 0, none⟩) p.sc.length p.sc.length))
  clear hb t2 N4 M4 c0 c1 c2 c3
  generalize hW4 : w5.alloc (.cells #[.slice (some ⟨h1, 0, none⟩) p.tg.length p.tg.length, .slice (some ⟨h2, 0, none⟩) p.at_.length p.at_.length, .slice (some ⟨h3, 0, none⟩) p.sc.length p.sc.length] 35) = W4 at *
  go_wp2_with fail
  clear hW4
  refine (toByteS_any q d l W4 HQ.out ll).mono ?_
  rintro e w6 ⟨v2, rfl, _, rv, hb⟩
  have HP := Hid.mk' (rowB HP.out hb)
  have HX := Hid.mk' (rowB HX.out hb)
  have HA := Hid.mk' (HA.out.below hb)
  have HQ := Hid.mk' (HQ.out.below hb)
  have HT := Hid.mk' (HT.out.below hb)
  have HB := Hid.mk' (HB.out.trans (hb.mono HB.out.size))
  have T2 := Hid.mk' (T2.out.below hb)
  have V2 := Hid.mk' rv
  clear hb rv
  obtain ⟨d0, d1, d2, d3⟩ := cellsP HX.out
  go_wp2_with fail
  refine (implMV_any p _ _ _ _ _ _ v2 _ t l w6 T2.out hl V2.out (Nat.le_refl _) tl HU.out ll HT.out).mono ?_
  rintro e w7 ⟨rfl, hb⟩
  have HP := Hid.mk' (rowB HP.out hb)
  have HX := Hid.mk' (rowB HX.out hb)
  have HA := Hid.mk' (HA.out.below hb)
  have HQ := Hid.mk' (HQ.out.below hb)
  have T2 := Hid.mk' (T2.out.below hb)
  have V2 := Hid.mk' (rowB V2.out hb)
  have HB := Hid.mk' (HB.out.trans (hb.mono HB.out.size))
  clear hb d0 d1 d2 d3 HT
  obtain ⟨c0, c1, c2, c3⟩ := cellsP HP.out
  obtain ⟨d0, d1, d2, d3⟩ := cellsP HX.out
  generalize mvB p t l = tf at *
  go_wp2
  go_region_held3 (fun w' => w'.cell? ⟨w.heap.size, 0, none⟩ = some (.slice a p.tg.length n1) ∧ w'.cell? ⟨w.heap.size, 1, none⟩ = some (.slice b p.at_.length n2) ∧ w'.cell? ⟨w.heap.size, 2, none⟩ = some (.slice c p.sc.length n3) ∧ w'.cell? ⟨w5.heap.size, 0, none⟩ = some (.slice (some ⟨h1, 0, none⟩) p.tg.length p.tg.length) ∧ w'.cell? ⟨w5.heap.size, 1, none⟩ = some (.slice (some ⟨h2, 0, none⟩) p.at_.length p.at_.length) ∧ w'.cell? ⟨w5.heap.size, 2, none⟩ = some (.slice (some ⟨h3, 0, none⟩) p.sc.length p.sc.length)) (simp [*])
    (first | (go_at_call 13; refine (toPolicy_at p a b c n1 n2 n3 _ (HA.out.below (Below.refl _ _).drew) hl).mono ?_; rintro e w9 ⟨k1, k2, k3, rfl, t9, hb9⟩; replace hb9 := undrew hb9; obtain ⟨hx1, hx2⟩ := bcell hb9; have z1 := hb9.size; have z2 : w.heap.size < w9.heap.size := (by omega); have z3 : w5.heap.size < w9.heap.size := (by omega)) | (go_at_call 17; refine (eqPolicy_any p _ _ _ _ _ _ _ _ _ _ _ _ _ (T2.out.below hb9) t9 hl).mono ?_; rintro e wA ⟨rfl, hbA⟩; obtain ⟨hx3, hx4⟩ := bcell hbA))
  have B9 := hb9.trans (hbA.mono hb9.size)
  have HB := Hid.mk' (HB.out.trans (B9.mono HB.out.size))
  have HQ := Hid.mk' (HQ.out.below B9)
  have V2 := Hid.mk' (rowB V2.out B9)
  clear hx1 hx2 hx3 hx4 z1 z2 z3 hb9 hbA t9 c0 c1 c2 c3 d0 d1 d2 d3 B9
  go_wp2_with fail
  refine (toByteS_any q d l wA HQ.out ll).mono ?_
  rintro e wB ⟨v3, rfl, _, rv, hb⟩
  have HB := Hid.mk' (HB.out.trans (hb.mono HB.out.size))
  have V2 := Hid.mk' (rowB V2.out hb)
  have V3 := Hid.mk' rv
  clear hb rv
  go_wp2_with fail
  refine (eqByteS_any _ _ _ _ l wB (.of_row V2.out) (.of_row V3.out) ll).mono ?_
  rintro e wC ⟨rfl, hb⟩
  have HB := Hid.mk' (HB.out.trans (hb.mono HB.out.size))
  clear hb
  go_wp2
  go_ret
  exact ⟨rfl, HB.out⟩

end Go.Proofs.YtfdcfajliofbfaaGreatDoor

/- Marks in bytes that may be written, in a policy's lists. -/
namespace Go.Proofs.YtfdcfajliofbfaaGreatDoor
open Go.RowKit Go.Maps
set_option linter.unusedVariables false
set_option linter.unusedSimpArgs false

/-- Bytes at one's own place, with marks up to i. -/
def MkF (w : World) (g o n k i : Nat) (l : List Int) : Prop := ∀ j, j < n → w.cell? ⟨g, o + j, none⟩ = some (if j < i then bv (mb k n) j else bv l j)

set_option maxHeartbeats 800000 in
theorem markByteS_fr (g o c k : Nat) (l : List Int) (w : World) (hg : g < w.heap.size) (hc : ∀ j, j < l.length → w.cell? ⟨g, o + j, none⟩ = some (bv l j)) (hf : FrA w (some ⟨g, o, none⟩) l.length) (hk : (k : Int) + l.length ≤ 100000000) :
    Calls Tryz.prog 20 #[.slice (some ⟨g, o, none⟩) l.length c, .int .i64 k] w fun e w' => e = .returned (.int .i64 ((k : Int) + l.length)) ∧ BAt w' (some ⟨g, o, none⟩) (mb k l.length) ∧ KeptIn g (g + 1) w w' := by
  have hf' : ∀ j, j < l.length → w.frozen? ⟨g, o + j, none⟩ = false := hf g o rfl
  go_enter Tryz.func20, Tryz.ntmps20
  go_wp2
  go_loopw [1, 5] (fun s x wr => ∃ i : Nat, i ≤ l.length ∧ x = .int .i64 i ∧ s = .int .i64 ((k : Int) + i) ∧ MkF wr g o l.length k i l ∧ (∀ j, j < l.length → wr.frozen? ⟨g, o + j, none⟩ = false) ∧ KeptIn g (g + 1) w wr) (fun _ x _ => l.length - (intOf x).toNat)
  case atStart => exact ⟨0, Nat.zero_le _, rfl, by simp, fun j hj => by rw [if_neg (by omega)]; exact hc j hj, hf', KeptIn.refl _ _ _⟩
  case round =>
    obtain ⟨i, hi, rfl, rfl, hrow, hfr, hkp⟩ := hrel
    by_cases hlt : i < l.length
    · have f0 := hfr i hlt
      obtain ⟨v0, g0⟩ : ∃ v, wr.cell? ⟨g, o + i, none⟩ = some v := ⟨_, hrow i hlt⟩
      have R1 := Hid.mk' hrow
      have R2 := Hid.mk' hkp
      have R3 := Hid.mk' hfr
      clear hrow hkp hfr hf hf' hc
      go_wp2
      go_roundw
      case rel =>
        refine ⟨i + 1, by omega, by go_num, by go_num, fun j hj => ?_, fun j hj => by rw [World.frozen?_setCell]; exact R3.out j hj, R2.out.setCell (p := ⟨g, o + i, none⟩) (Nat.le_refl _) (Nat.lt_succ_self _) _⟩
        by_cases e : j = i
        · subst e
          rw [if_pos (by omega), bv_mb _ _ _ hj]
          exact World.cell?_setCell_same _ _ _ g0
        · rw [World.cell?_setCell_other _ _ _ _ (fun h => e (by have := congrArg Addr.off h; dsimp only at this; omega)), R1.out j hj]
          by_cases hji : j < i
          · rw [if_pos hji, if_pos (by omega)]
          · rw [if_neg hji, if_neg (by omega)]
      case measure => simp [intOf]; omega
    · go_wp2
      go_ret
      have e : i = l.length := by omega
      subst e
      refine ⟨rfl, .inr ⟨g, o, rfl, Nat.lt_of_lt_of_le hg hkp.size, fun j hj => ?_⟩, hkp⟩
      rw [mb_len] at hj
      rw [hrow j hj, if_pos hj]

set_option maxHeartbeats 400000 in
theorem markByteS_zero (v : Option Addr) (c k : Nat) (w : World) (hk : (k : Int) ≤ 100000000) :
    Calls Tryz.prog 20 #[.slice v 0 c, .int .i64 k] w fun e w' => e = .returned (.int .i64 (k : Int)) ∧ w' = w := by
  go_enter Tryz.func20, Tryz.ntmps20
  go_wp2
  go_loop [1, 5] (fun s x => x = .int .i64 0 ∧ s = .int .i64 (k : Int)) (fun _ _ => 0)
  case atStart => exact ⟨rfl, rfl⟩
  case round =>
    obtain ⟨rfl, rfl⟩ := hrel
    go_wp2
    go_ret
    exact ⟨rfl, rfl⟩

/-- Marks in an answer's bytes. -/
theorem markByteS_at (v : Option Addr) (c lo hi : Nat) (l : List Int) (w : World) (h : BAt w v l) (hf : FrA w v l.length) (hv : ∀ b o, v = some ⟨b, o, none⟩ → l ≠ [] → lo ≤ b ∧ b < hi) (hl : (l.length : Int) ≤ 1048576) :
    Calls Tryz.prog 20 #[.slice v l.length c, .int .i64 1] w fun e w' => e = .returned (.int .i64 (1 + (l.length : Int))) ∧ BAt w' v (mb 1 l.length) ∧ KeptIn lo hi w w' := by
  by_cases h0 : l = []
  · subst h0
    refine (markByteS_zero v c 1 w (by omega)).mono ?_
    rintro e w' ⟨rfl, rfl⟩
    exact ⟨rfl, .inl rfl, KeptIn.refl _ _ _⟩
  · rcases h with h | ⟨b, o, rfl, hb, hc⟩
    · exact absurd h h0
    · refine (markByteS_fr b o c 1 l w hb hc hf (by omega)).mono ?_
      rintro e w' ⟨rfl, h1, h2⟩
      have := hv b o rfl h0
      exact ⟨rfl, h1, h2.mono this.1 (by omega)⟩

set_option maxHeartbeats 400000 in
theorem markBR_at (z : Int) (v : Option Addr) (c lo hi : Nat) (l : List Int) (w : World) (h : BAt w v l) (hf : FrA w v l.length) (hv : ∀ b o, v = some ⟨b, o, none⟩ → l ≠ [] → lo ≤ b ∧ b < hi) (hl : (l.length : Int) ≤ 1048576) (hh : hi ≤ w.heap.size) :
    Calls Tryz.prog 21 #[.agg #[.int .i64 z, .slice v l.length c], .int .i64 1] w fun e w' => e = .returned (.int .i64 (1 + (l.length : Int))) ∧ BAt w' v (mb 1 l.length) ∧ KeptIn lo hi w w' := by
  have B0 := below_new w (.cells #[.int .i64 z, .slice v l.length c] 33)
  have FA : FrA (w.alloc (.cells #[.int .i64 z, .slice v l.length c] 33)) v l.length := fun b o e k hk => by
    have hne : l ≠ [] := fun x => by rw [x] at hk; exact absurd hk (by simp)
    have hlt := (hv b o e hne).2
    have := hf b o e k hk
    unfold World.frozen? at this ⊢
    rw [B0.block b (by omega)]
    exact this
  have KK := Hid.mk' (markByteS_at v c lo hi l _ (h.below B0) FA hv hl)
  have BB := Hid.mk' (KeptIn.of_below (lo := lo) (hi := hi) B0)
  clear B0 h FA hf hv
  go_enter Tryz.func21, Tryz.ntmps21
  go_wp2_with fail
  refine KK.out.mono ?_
  rintro e w1 ⟨rfl, o1, t1⟩
  have O1 := Hid.mk' o1
  have T1 := Hid.mk' (BB.out.trans t1)
  clear KK o1 t1
  go_wp2
  go_ret
  exact ⟨rfl, O1.out, T1.out⟩

set_option maxHeartbeats 1600000 in
theorem markPolicy_x (p : PO) (lo hi g1 g2 g3 : Nat) (w : World) (h : PX lo g1 g2 g3 p w) (hh : g3 < hi) (hl : (psz p : Int) ≤ 1048576) :
    Calls Tryz.prog 19 #[.agg #[.slice (some ⟨g1, 0, none⟩) p.tg.length p.tg.length, .slice (some ⟨g2, 0, none⟩) p.at_.length p.at_.length, .slice (some ⟨g3, 0, none⟩) p.sc.length p.sc.length], .int .i64 1] w fun e w' => e = .returned (.int .i64 ((1 + p.tg.length + p.at_.length + p.sc.length : Nat) : Int)) ∧ KeptIn lo hi w w' := by
  unfold psz at hl
  obtain ⟨l1, l2, l3, r1, r2, r3'⟩ := h
  have s3 := r3'.lt
  have B0 := below_new w (.cells #[.slice (some ⟨g1, 0, none⟩) p.tg.length p.tg.length, .slice (some ⟨g2, 0, none⟩) p.at_.length p.at_.length, .slice (some ⟨g3, 0, none⟩) p.sc.length p.sc.length] 35)
  have HX := Hid.mk' (row3 w 35 (.slice (some ⟨g1, 0, none⟩) p.tg.length p.tg.length) (.slice (some ⟨g2, 0, none⟩) p.at_.length p.at_.length) (.slice (some ⟨g3, 0, none⟩) p.sc.length p.sc.length))
  have K1 := Hid.mk' (markStringS_is g1 p.tg.length 1 p.tg (sv p.tg) p.tg.length _ (rowB r1 B0) (Nat.le_refl _) (by omega) (by omega))
  have R2 := Hid.mk' (rowB r2 B0)
  have R3 := Hid.mk' (rowB r3' B0)
  have HK := Hid.mk' (KeptIn.of_below (lo := lo) (hi := hi) B0)
  have L := Hid.mk' (show lo ≤ g1 ∧ g1 < g2 ∧ g2 < g3 ∧ g3 < hi ∧ g3 < w.heap.size from ⟨l1, l2, l3, hh, s3⟩)
  have HL := Hid.mk' (show (p.tg.length : Int) + p.at_.length + p.sc.length ≤ 1048576 by omega)
  clear r1 r2 r3' B0 l1 l2 l3 hh s3 hl
  generalize hW : w.alloc (.cells #[.slice (some ⟨g1, 0, none⟩) p.tg.length p.tg.length, .slice (some ⟨g2, 0, none⟩) p.at_.length p.at_.length, .slice (some ⟨g3, 0, none⟩) p.sc.length p.sc.length] 35) = W at *
  obtain ⟨x0, x1, x2, x3⟩ := cellsP HX.out
  go_enter Tryz.func19, Tryz.ntmps19
  go_wp2_with fail
  clear hW x0 x1 x2 x3
  refine K1.out.mono ?_
  rintro e w1 ⟨rfl, _, hk⟩
  have R2 := Hid.mk' (rowK R2.out hk (.inr (by have := L.out; omega)))
  have R3 := Hid.mk' (rowK R3.out hk (.inr (by have := L.out; omega)))
  have HX := Hid.mk' (rowK HX.out hk (.inr (by have := L.out; omega)))
  have HK := Hid.mk' (HK.out.trans (hk.mono (by have := L.out; omega) (by have := L.out; omega)))
  have K2 := Hid.mk' (markStringS_is g2 p.at_.length (1 + p.tg.length) p.at_ (sv p.at_) p.at_.length _ R2.out (Nat.le_refl _) (by omega) (by have := HL.out; omega))
  clear hk K1 R2
  obtain ⟨x0, x1, x2, x3⟩ := cellsP HX.out
  go_wp2_with fail
  clear x0 x1 x2 x3
  refine K2.out.mono ?_
  rintro e w2 ⟨rfl, _, hk⟩
  have R3 := Hid.mk' (rowK R3.out hk (.inr (by have := L.out; omega)))
  have HX := Hid.mk' (rowK HX.out hk (.inr (by have := L.out; omega)))
  have HK := Hid.mk' (HK.out.trans (hk.mono (by have := L.out; omega) (by have := L.out; omega)))
  have K3 := Hid.mk' (markStringS_is g3 p.sc.length (1 + p.tg.length + p.at_.length) p.sc (sv p.sc) p.sc.length _ R3.out (Nat.le_refl _) (by omega) (by have := HL.out; omega))
  clear hk K2 R3
  obtain ⟨x0, x1, x2, x3⟩ := cellsP HX.out
  go_wp2_with fail
  clear x0 x1 x2 x3
  refine K3.out.mono ?_
  rintro e w3 ⟨rfl, _, hk⟩
  have HK := Hid.mk' (HK.out.trans (hk.mono (by have := L.out; omega) (by have := L.out; omega)))
  clear hk K3
  go_wp2
  go_ret
  exact ⟨rfl, HK.out⟩

theorem BAt.keptIn {w w' : World} {v : Option Addr} {l : List Int} {lo hi : Nat} (h : BAt w v l) (hk : KeptIn lo hi w w') (hv : ∀ b o, v = some ⟨b, o, none⟩ → l ≠ [] → b < lo ∨ hi ≤ b) : BAt w' v l := by
  rcases h with h | ⟨b, o, e, hb, hc⟩
  · exact .inl h
  · by_cases h0 : l = []
    · exact .inl h0
    · refine .inr ⟨b, o, e, Nat.lt_of_lt_of_le hb hk.size, fun k hk' => ?_⟩
      have := hc k hk'
      unfold World.cell? at this ⊢
      rw [hk.block b hb (hv b o e h0)]
      exact this

theorem FrA.keptIn {w w' : World} {v : Option Addr} {n lo hi : Nat} (h : FrA w v n) (hk : KeptIn lo hi w w') (hv : ∀ b o, v = some ⟨b, o, none⟩ → 0 < n → (b < lo ∨ hi ≤ b) ∧ b < w.heap.size) : FrA w' v n := fun b o e k hkn => by
  have hh := hv b o e (by omega)
  have := h b o e k hkn
  unfold World.frozen? at this ⊢
  rw [hk.block b hh.2 hh.1]
  exact this

end Go.Proofs.YtfdcfajliofbfaaGreatDoor

/- The law on KeptValue. -/
namespace Go.Proofs.YtfdcfajliofbfaaGreatDoor
open Go.RowKit Go.Maps
set_option linter.unusedVariables false
set_option linter.unusedSimpArgs false

theorem txtQ_len (b : Bool) (q : Nat) : (txtQ b q).length ≤ 9 := by
  unfold txtQ digL
  rw [List.length_append, List.length_append]
  have h1 := digF_len 5 (q / 4)
  have h2 : (fracL (q % 4)).length ≤ 3 := by
    rcases (show q % 4 = 0 ∨ q % 4 = 1 ∨ q % 4 = 2 ∨ q % 4 = 3 by omega) with h | h | h | h <;> rw [h] <;> decide
  have h3 : (if b = true then [(45 : Int)] else []).length ≤ 1 := by split <;> simp
  omega

theorem wtT_len (s : ByteArray) : (wtT s).size ≤ 9 := by
  have hm : ∀ b : Int, (mtT b).size ≤ 9 := fun b => by
    unfold mtT
    split
    · decide
    · split
      · split <;> decide
      · split
        · decide
        · rw [strS_size]; exact txtQ_len _ _
  unfold wtT
  split
  · split
    · exact hm _
    · decide
  · decide

theorem kvP_len (p : PO) (n : ByteArray) (l : List Int) (hl : (l.length : Int) ≤ 1048576) : ((kvP p n l).2.length : Int) ≤ 1048576 := by
  have hk : ((kvF p n l).2.length : Int) ≤ 1048576 := by
    unfold kvF
    split
    · split
      · have := wtT_len (strS l)
        show ((bytesL (wtT (strS l))).length : Int) ≤ _
        rw [bytesL_len]
        omega
      · split
        · split
          · simp
          · exact hl
        · simp
    · simp
  unfold kvP
  split
  · split
    · exact hk
    · simp
  · simp

set_option maxRecDepth 100000 in
set_option maxHeartbeats 12800000 in
theorem lawKV_any (p : PO) (a b c : Option Addr) (n1 n2 n3 : Nat) (t : ByteArray) (q : Option Addr) (d : Nat) (l : List Int) (w : World) (ha : POAt w a b c p) (hw : WideP p) (ht : (t.size : Int) ≤ 9223372036854775807) (hq : BAt w q l) (hu : ∀ k, k < l.length → 0 ≤ l.getD k 0 ∧ l.getD k 0 ≤ 255) (hm : (l.length : Int) ≤ 9223372036854775807) (tb : TBS w) :
    Calls Tryz.prog 4 #[.agg #[.slice a p.tg.length n1, .slice b p.at_.length n2, .slice c p.sc.length n3], .string t, .slice q l.length d] w fun e w' => e = .returned (.bool true) ∧ Below w.heap.size w w' := by
  have N0 := below_new w (.cells #[.slice a p.tg.length n1, .slice b p.at_.length n2, .slice c p.sc.length n3] 29)
  have KS := szPolicy_any p a b c n1 n2 n3 _ (ha.below N0) hw
  have HP := Hid.mk' (row3 w 29 (.slice a p.tg.length n1) (.slice b p.at_.length n2) (.slice c p.sc.length n3))
  have HA := Hid.mk' ha
  have HQ := Hid.mk' hq
  have HT := Hid.mk' tb
  have HB := Hid.mk' N0
  have HU := Hid.mk' hu
  clear ha N0 hw hq tb hu
  generalize hW : w.alloc (.cells #[.slice a p.tg.length n1, .slice b p.at_.length n2, .slice c p.sc.length n3] 29) = W at *
  obtain ⟨c0, c1, c2, c3⟩ := cellsP HP.out
  by_cases wide : (t.size : Int) > 1048576
  · go_enter Tryz.func4, Tryz.ntmps4
    go_wp2
    go_ret
    exact ⟨rfl, HB.out⟩
  have tl : (t.size : Int) ≤ 1048576 := by omega
  by_cases wideL : (l.length : Int) > 1048576
  · go_enter Tryz.func4, Tryz.ntmps4
    go_wp2
    go_ret
    exact ⟨rfl, HB.out⟩
  have ll : (l.length : Int) ≤ 1048576 := by omega
  by_cases big : 1048576 < (psz p : Int)
  · rw [if_pos big] at KS
    have KS := Hid.mk' KS
    go_enter Tryz.func4, Tryz.ntmps4
    go_wp2_with fail
    refine KS.out.mono ?_
    rintro e w1 ⟨rfl, hb⟩
    have HB := Hid.mk' (HB.out.trans (hb.mono HB.out.size))
    clear hb KS
    go_wp2
    go_ret
    exact ⟨rfl, HB.out⟩
  rw [if_neg big] at KS
  have KS := Hid.mk' KS
  have zz : ¬ (1048576 - (psz p : Int) < 0) := by omega
  have hl : (psz p : Int) ≤ 1048576 := by omega
  have hR := Hid.mk' (kvP_len p t l ll)
  have KSP : Hid (∀ (X : World) (g1 g2 g3 v1 : Nat), POAt X (some ⟨g1, 0, none⟩) (some ⟨g2, 0, none⟩) (some ⟨g3, 0, none⟩) p → X.rowIs v1 5 l.length (bv l) → Calls Tryz.prog 12 #[.agg #[.slice (some ⟨g1, 0, none⟩) p.tg.length p.tg.length, .slice (some ⟨g2, 0, none⟩) p.at_.length p.at_.length, .slice (some ⟨g3, 0, none⟩) p.sc.length p.sc.length], .string t, .slice (some ⟨v1, 0, none⟩) l.length l.length] X fun e w' => ∃ v c', e = .returned (.agg #[.int .i64 (kvP p t l).1, .slice v (kvP p t l).2.length c']) ∧ BAt w' v (kvP p t l).2 ∧ Below X.heap.size X w') := Hid.mk' (fun X g1 g2 g3 v1 h1 h2 => specKV_any p _ _ _ _ _ _ t _ _ l X h1 hl (.of_row h2) HU.out ll)
  have KIM : Hid (∀ (X : World) (g1 g2 g3 v1 : Nat), POAt X (some ⟨g1, 0, none⟩) (some ⟨g2, 0, none⟩) (some ⟨g3, 0, none⟩) p → X.rowIs v1 5 l.length (bv l) → TBS X → Calls Tryz.prog 15 #[.agg #[.slice (some ⟨g1, 0, none⟩) p.tg.length p.tg.length, .slice (some ⟨g2, 0, none⟩) p.at_.length p.at_.length, .slice (some ⟨g3, 0, none⟩) p.sc.length p.sc.length], .string t, .slice (some ⟨v1, 0, none⟩) l.length l.length] X fun e w' => ∃ v c', e = .returned (.agg #[.int .i64 (kvP p t l).1, .slice v (kvP p t l).2.length c']) ∧ BAt w' v (kvP p t l).2 ∧ FrA w' v (kvP p t l).2.length ∧ (∀ b o, v = some ⟨b, o, none⟩ → X.heap.size ≤ b) ∧ Below X.heap.size X w') := Hid.mk' (fun X g1 g2 g3 v1 h1 h2 h3 => implKV_any p _ _ _ _ _ _ v1 _ t l X h1 hl h2 (Nat.le_refl _) tl HU.out ll h3)
  generalize (kvP p t l).1 = C at *
  generalize (kvP p t l).2 = K at *
  go_enter Tryz.func4, Tryz.ntmps4
  go_wp2_with fail
  clear hW
  refine KS.out.mono ?_
  rintro e w1 ⟨rfl, hb⟩
  have HP := Hid.mk' (rowB HP.out hb)
  have HB := Hid.mk' (HB.out.trans (hb.mono HB.out.size))
  clear hb KS c0 c1 c2 c3 big wide wideL
  obtain ⟨c0, c1, c2, c3⟩ := cellsP HP.out
  go_wp2_with fail
  clear zz
  refine (toPolicy_at p a b c n1 n2 n3 w1 (HA.out.below HB.out) hl).mono ?_
  rintro e w2 ⟨g1, g2, g3, rfl, t1, hb⟩
  have HP := Hid.mk' (rowB HP.out hb)
  have HB := Hid.mk' (HB.out.trans (hb.mono HB.out.size))
  have T1 := Hid.mk' t1
  clear hb t1 c0 c1 c2 c3
  go_wp2_with fail
  refine (toByteS_any q d l w2 (HQ.out.below HB.out) ll).mono ?_
  rintro e w3 ⟨v1, rfl, _, rv, hb⟩
  have HP := Hid.mk' (rowB HP.out hb)
  have HB := Hid.mk' (HB.out.trans (hb.mono HB.out.size))
  have KSP := Hid.mk' (KSP.out w3 g1 g2 g3 v1 (T1.out.below hb) rv)
  clear hb rv T1
  go_wp2_with fail
  refine KSP.out.mono ?_
  rintro e w4 ⟨va, vc, rfl, hat, hb⟩
  have N4 := below_new w4 (.cells #[.int .i64 C, .slice va K.length vc] 33)
  have M4 := hb.trans (N4.mono hb.size)
  have HP := Hid.mk' (rowB HP.out M4)
  have HB := Hid.mk' (HB.out.trans (M4.mono HB.out.size))
  have XA := Hid.mk' (rowQ2 w4 33 (.int .i64 C) (.slice va K.length vc))
  have VA := Hid.mk' (hat.below N4)
  clear hb hat KSP N4 M4
  generalize hWA : w4.alloc (.cells #[.int .i64 C, .slice va K.length vc] 33) = WA at *
  have HZ := Hid.mk' HB.out.size
  have HXA := Hid.mk' XA.out.lt
  obtain ⟨c0, c1, c2, c3⟩ := cellsP HP.out
  go_wp2_with fail
  clear hWA
  refine (toPolicy_any p a b c n1 n2 n3 WA (HA.out.below HB.out) hl).mono ?_
  rintro e w5 ⟨h1, h2, h3, rfl, t2, hb⟩
  have N5 := below_new w5 (.cells #[.slice (some ⟨h1, 0, none⟩) p.tg.length p.tg.length, .slice (some ⟨h2, 0, none⟩) p.at_.length p.at_.length, .slice (some ⟨h3, 0, none⟩) p.sc.length p.sc.length] 35)
  have DA := Hid.mk' (hb.trans (N5.mono hb.size))
  have T2 := Hid.mk' (t2.below N5)
  have DX := Hid.mk' hb.size
  have HX := Hid.mk' (row3 w5 35 (.slice (some ⟨h1, 0, none⟩) p.tg.length p.tg.length) (.slice (some ⟨h2, 0, none⟩) p.at_.length p.at_.length) (.slice (some ⟨h3, 0, none⟩) p.sc.length p.sc.length))
  have HG3 := Hid.mk' t2.2.2.2.2.2.lt
  clear hb t2 N5 c0 c1 c2 c3
  generalize hW5 : w5.alloc (.cells #[.slice (some ⟨h1, 0, none⟩) p.tg.length p.tg.length, .slice (some ⟨h2, 0, none⟩) p.at_.length p.at_.length, .slice (some ⟨h3, 0, none⟩) p.sc.length p.sc.length] 35) = W5 at *
  go_wp2_with fail
  clear hW5
  refine (toByteS_any q d l W5 (HQ.out.below (HB.out.trans (DA.out.mono HB.out.size))) ll).mono ?_
  rintro e w6 ⟨v2, rfl, hv2, rv, hb⟩
  have HX5 := Hid.mk' HX.out.lt
  have HV2 := Hid.mk' hv2
  have DA := Hid.mk' (DA.out.trans (hb.mono DA.out.size))
  have HX := Hid.mk' (rowB HX.out hb)
  have T2 := Hid.mk' (T2.out.below hb)
  have V2 := Hid.mk' rv
  have HS5 := Hid.mk' hb.size
  clear hb rv hv2
  obtain ⟨d0, d1, d2, d3⟩ := cellsP HX.out
  have KI := Hid.mk' (KIM.out w6 h1 h2 h3 v2 T2.out.at V2.out (HT.out.below (HB.out.trans (DA.out.mono HB.out.size))))
  go_wp2_with fail
  refine KI.out.mono ?_
  rintro e w7 ⟨u, uc, rfl, hat, hfa, hfr, hb⟩
  have N7 := below_new w7 (.cells #[.int .i64 C, .slice u K.length uc] 33)
  have M7 := hb.trans (N7.mono hb.size)
  have DA := Hid.mk' (DA.out.trans (M7.mono DA.out.size))
  have HX := Hid.mk' (rowB HX.out M7)
  have T2 := Hid.mk' (T2.out.below M7)
  have V2L := Hid.mk' V2.out.lt
  have V2 := Hid.mk' (rowB V2.out M7)
  have XG := Hid.mk' (rowQ2 w7 33 (.int .i64 C) (.slice u K.length uc))
  have UL : Hid (∀ b o, u = some ⟨b, o, none⟩ → K ≠ [] → w6.heap.size ≤ b ∧ b < w7.heap.size) := Hid.mk' (fun b o e hne => ⟨hfr b o e, by
    rcases hat with h | ⟨b', o', e', hlt, _⟩
    · exact absurd h hne
    · rw [e] at e'; cases e'; exact hlt⟩)
  have UA := Hid.mk' (hat.below N7)
  have UF : Hid (FrA (w7.alloc (.cells #[.int .i64 C, .slice u K.length uc] 33)) u K.length) := Hid.mk' (hfa.keptIn (KeptIn.of_below (lo := 0) (hi := 0) N7) (fun b o e hn => ⟨.inr (Nat.zero_le _), (UL.out b o e (fun x => by rw [x] at hn; exact absurd hn (by simp))).2⟩))
  have HS7 := Hid.mk' hb.size
  clear hb hat hfa hfr N7 M7 KI d0 d1 d2 d3
  generalize hWC : w7.alloc (.cells #[.int .i64 C, .slice u K.length uc] 33) = WC at *
  have HXG := Hid.mk' XG.out.lt
  obtain ⟨y0, y1, y2⟩ := cellsQ2 XG.out
  obtain ⟨z0, z1, z2⟩ := cellsQ2 (rowB XA.out DA.out)
  go_wp2_with fail
  clear hWC
  refine (eqBR_any C (.slice u K.length uc) (.slice va K.length vc) K WC ⟨_, _, rfl, UA.out⟩ ⟨_, _, rfl, VA.out.below DA.out⟩ hR.out).mono ?_
  rintro e w8 ⟨rfl, hb⟩
  have DA := Hid.mk' (DA.out.trans (hb.mono DA.out.size))
  have DC := Hid.mk' hb
  clear hb y0 y1 y2 z0 z1 z2
  obtain ⟨c0, c1, c2, c3⟩ := cellsP (rowB HP.out DA.out)
  obtain ⟨d0, d1, d2, d3⟩ := cellsP (rowB HX.out DC.out)
  have HA8 := Hid.mk' (HA.out.below (HB.out.trans (DA.out.mono HB.out.size)))
  have T8 := Hid.mk' (T2.out.below DC.out).at
  go_wp2
  go_region_held3 (fun w' => w'.cell? ⟨w.heap.size, 0, none⟩ = some (.slice a p.tg.length n1) ∧ w'.cell? ⟨w.heap.size, 1, none⟩ = some (.slice b p.at_.length n2) ∧ w'.cell? ⟨w.heap.size, 2, none⟩ = some (.slice c p.sc.length n3) ∧ w'.cell? ⟨w5.heap.size, 0, none⟩ = some (.slice (some ⟨h1, 0, none⟩) p.tg.length p.tg.length) ∧ w'.cell? ⟨w5.heap.size, 1, none⟩ = some (.slice (some ⟨h2, 0, none⟩) p.at_.length p.at_.length) ∧ w'.cell? ⟨w5.heap.size, 2, none⟩ = some (.slice (some ⟨h3, 0, none⟩) p.sc.length p.sc.length)) (simp [*])
    (first | (go_at_call 13; refine (toPolicy_at p a b c n1 n2 n3 _ (HA8.out.below (Below.refl _ _).drew) hl).mono ?_; rintro e w9 ⟨k1, k2, k3, rfl, t9, hb9⟩; replace hb9 := undrew hb9; obtain ⟨hx1, hx2⟩ := bcell hb9; have zz1 := hb9.size; have zz2 : w.heap.size < w9.heap.size := (by omega); have zz3 : w5.heap.size < w9.heap.size := (by omega)) | (go_at_call 17; refine (eqPolicy_any p _ _ _ _ _ _ _ _ _ _ _ _ _ (T8.out.below hb9) t9 hl).mono ?_; rintro e wD ⟨rfl, hbA⟩; obtain ⟨hx3, hx4⟩ := bcell hbA))
  have B9 := hb9.trans (hbA.mono hb9.size)
  have DA := Hid.mk' (DA.out.trans (B9.mono DA.out.size))
  have DC := Hid.mk' (DC.out.trans (B9.mono DC.out.size))
  clear hx1 hx2 hx3 hx4 zz1 zz2 zz3 hb9 hbA t9 c0 c1 c2 c3 d0 d1 d2 d3 B9 HA8 T8
  go_wp2_with fail
  refine (toByteS_any q d l wD (HQ.out.below (HB.out.trans (DA.out.mono HB.out.size))) ll).mono ?_
  rintro e wE ⟨v3, rfl, _, rv, hb⟩
  have DA := Hid.mk' (DA.out.trans (hb.mono DA.out.size))
  have DC := Hid.mk' (DC.out.trans (hb.mono DC.out.size))
  have V3 := Hid.mk' rv
  clear hb rv
  go_wp2_with fail
  refine (eqByteS_any _ _ _ _ l wE (.of_row (rowB V2.out DC.out)) (.of_row V3.out) ll).mono ?_
  rintro e wF ⟨rfl, hb⟩
  have DA := Hid.mk' (DA.out.trans (hb.mono DA.out.size))
  have DC := Hid.mk' (DC.out.trans (hb.mono DC.out.size))
  clear hb V3
  obtain ⟨d0, d1, d2, d3⟩ := cellsP (rowB HX.out DC.out)
  go_wp2_with fail
  refine (markPolicy_x p WA.heap.size w5.heap.size h1 h2 h3 wF (T2.out.below DC.out) HG3.out hl).mono ?_
  rintro e wG ⟨rfl, hk⟩
  have DA := Hid.mk' (DA.out.trans (hk.below (Nat.le_refl _) DA.out.size))
  have KC := Hid.mk' ((KeptIn.of_below (lo := WA.heap.size) (hi := w6.heap.size) DC.out).trans (hk.mono (Nat.le_refl _) (by have := HX5.out; have := HS5.out; omega)))
  have V2 := Hid.mk' (rowK (rowB V2.out DC.out) hk (.inr (by have := HV2.out; have := HX5.out; omega)))
  clear hk d0 d1 d2 d3 DC T2 HX
  have hpz : Hid ((p.tg.length : Int) + p.at_.length + p.sc.length ≤ 1048576) := Hid.mk' (by unfold psz at hl; omega)
  have KM := Hid.mk' (markByteS_row v2 l.length l.length l.length (1 + p.tg.length + p.at_.length + p.sc.length) (bv l) wG V2.out (Nat.le_refl _) (by have := hpz.out; omega))
  go_wp2_with fail
  refine KM.out.mono ?_
  rintro e wH ⟨rfl, _, hk⟩
  have DA := Hid.mk' (DA.out.trans (hk.below (by have := HV2.out; have := HX5.out; have := DX.out; omega) DA.out.size))
  have KC := Hid.mk' (KC.out.trans (hk.mono (by have := HV2.out; have := HX5.out; have := DX.out; omega) (by have := V2L.out; omega)))
  clear hk V2 KM
  have UA := Hid.mk' (UA.out.keptIn KC.out (fun b o e hne => .inr (UL.out b o e hne).1))
  have UF := Hid.mk' (UF.out.keptIn KC.out (fun b o e hn => (fun hh => ⟨.inr hh.1, by have := hh.2; have := HXG.out; omega⟩) (UL.out b o e (fun x => by rw [x] at hn; exact absurd hn (by simp)))))
  have XG := Hid.mk' (rowK XG.out KC.out (.inr HS7.out))
  have kz : ¬ ((((1 + p.tg.length + p.at_.length + p.sc.length : Nat) : Int)) + (l.length : Int) < 0) := by omega
  obtain ⟨y0, y1, y2⟩ := cellsQ2 XG.out
  obtain ⟨z0, z1, z2⟩ := cellsQ2 (rowB XA.out DA.out)
  clear KC
  go_wp2_with fail
  refine (eqBR_any C (.slice u K.length uc) (.slice va K.length vc) K wH ⟨_, _, rfl, UA.out⟩ ⟨_, _, rfl, VA.out.below DA.out⟩ hR.out).mono ?_
  rintro e wI ⟨rfl, hb⟩
  have DA := Hid.mk' (DA.out.trans (hb.mono DA.out.size))
  have UA := Hid.mk' (UA.out.below hb)
  have UF := Hid.mk' (UF.out.keptIn (KeptIn.of_below (lo := 0) (hi := 0) hb) (fun b o e hn => ⟨.inr (Nat.zero_le _), by have := (UL.out b o e (fun x => by rw [x] at hn; exact absurd hn (by simp))).2; have := XG.out.lt; omega⟩))
  have XG := Hid.mk' (rowB XG.out hb)
  clear hb y0 y1 y2 z0 z1 z2 kz
  obtain ⟨y0, y1, y2⟩ := cellsQ2 XG.out
  have KM := Hid.mk' (markBR_at C u uc w6.heap.size w7.heap.size K wI UA.out UF.out UL.out hR.out (by have := XG.out.lt; omega))
  go_wp2_with fail
  refine KM.out.mono ?_
  rintro e wJ ⟨rfl, um, hk⟩
  have DA := Hid.mk' (DA.out.trans (hk.below (by have := HV2.out; have := HX5.out; have := DX.out; have := V2L.out; omega) DA.out.size))
  have XG := Hid.mk' (rowK XG.out hk (.inr (Nat.le_refl _)))
  have UM := Hid.mk' um
  clear hk um UA UF y0 y1 y2 KM
  obtain ⟨y0, y1, y2⟩ := cellsQ2 XG.out
  go_wp2_with fail
  refine (heldBR_any C (.slice u K.length uc) K.length wJ ⟨_, _, rfl, UM.out⟩ hR.out).mono ?_
  rintro e wK ⟨rfl, hb⟩
  have DA := Hid.mk' (DA.out.trans (hb.mono DA.out.size))
  have UM := Hid.mk' (UM.out.below hb)
  have XG := Hid.mk' (rowB XG.out hb)
  clear hb y0 y1 y2
  obtain ⟨c0, c1, c2, c3⟩ := cellsP (rowB HP.out DA.out)
  go_wp2_with fail
  refine (toPolicy_at p a b c n1 n2 n3 wK (HA.out.below (HB.out.trans (DA.out.mono HB.out.size))) hl).mono ?_
  rintro e wL ⟨k1, k2, k3, rfl, t9, hb⟩
  have DA := Hid.mk' (DA.out.trans (hb.mono DA.out.size))
  have UM := Hid.mk' (UM.out.below hb)
  have XG := Hid.mk' (rowB XG.out hb)
  have T9 := Hid.mk' t9
  clear hb t9 c0 c1 c2 c3
  go_wp2_with fail
  refine (toByteS_any q d l wL (HQ.out.below (HB.out.trans (DA.out.mono HB.out.size))) ll).mono ?_
  rintro e wM ⟨v4, rfl, _, rv, hb⟩
  have DA := Hid.mk' (DA.out.trans (hb.mono DA.out.size))
  have UM := Hid.mk' (UM.out.below hb)
  have XG := Hid.mk' (rowB XG.out hb)
  have KI := Hid.mk' (KIM.out wM k1 k2 k3 v4 (T9.out.below hb) rv (HT.out.below (HB.out.trans (DA.out.mono HB.out.size))))
  clear hb rv T9
  go_wp2_with fail
  refine KI.out.mono ?_
  rintro e wN ⟨x, xc, rfl, hat, _, _, hb⟩
  have N9 := below_new wN (.cells #[.int .i64 C, .slice x K.length xc] 33)
  have M9 := hb.trans (N9.mono hb.size)
  have DA := Hid.mk' (DA.out.trans (M9.mono DA.out.size))
  have UM := Hid.mk' (UM.out.below M9)
  have XG := Hid.mk' (rowB XG.out M9)
  have XH := Hid.mk' (rowQ2 wN 33 (.int .i64 C) (.slice x K.length xc))
  have HAT := Hid.mk' (hat.below N9)
  clear hb hat N9 M9 KI
  generalize hWN : wN.alloc (.cells #[.int .i64 C, .slice x K.length xc] 33) = WN at *
  obtain ⟨y0, y1, y2⟩ := cellsQ2 XH.out
  obtain ⟨z0, z1, z2⟩ := cellsQ2 (rowB XA.out DA.out)
  go_wp2_with fail
  clear hWN
  refine (eqBR_any C (.slice x K.length xc) (.slice va K.length vc) K WN ⟨_, _, rfl, HAT.out⟩ ⟨_, _, rfl, VA.out.below DA.out⟩ hR.out).mono ?_
  rintro e wO ⟨rfl, hb⟩
  have DA := Hid.mk' (DA.out.trans (hb.mono DA.out.size))
  have UM := Hid.mk' (UM.out.below hb)
  have XG := Hid.mk' (rowB XG.out hb)
  clear hb y0 y1 y2 z0 z1 z2
  obtain ⟨y0, y1, y2⟩ := cellsQ2 XG.out
  go_wp2_with fail
  refine (heldBR_any C (.slice u K.length uc) K.length wO ⟨_, _, rfl, UM.out⟩ hR.out).mono ?_
  rintro e wQ ⟨rfl, hb⟩
  have DA := Hid.mk' (DA.out.trans (hb.mono DA.out.size))
  clear hb y0 y1 y2
  go_wp2
  go_ret
  exact ⟨rfl, HB.out.trans (DA.out.mono HB.out.size)⟩

end Go.Proofs.YtfdcfajliofbfaaGreatDoor
