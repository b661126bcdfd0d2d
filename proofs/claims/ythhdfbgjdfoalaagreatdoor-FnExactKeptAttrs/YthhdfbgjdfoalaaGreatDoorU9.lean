/- KeptValue, both sides: what is kept of a value, to be read. -/
import Derived.Test.YthhdfbgjdfoalaaGreatDoorU4
import Derived.Test.YthhdfbgjdfoalaaGreatDoorU8
import Derived.Lib.ConvBytes
import Derived.Lib.AtoiErrMem
import Derived.Test.YthhdfbgjdfoalaaGreatDoorTxt
import Derived.Test.YthhdfbgjdfoalaaGreatDoorU2
namespace Go.Proofs.YthhdfbgjdfoalaaGreatDoor
open Go.RowKit Go.Maps
set_option linter.unusedVariables false
set_option linter.unusedSimpArgs false

def isW (n : ByteArray) : Bool := n.toList == [119, 105, 100, 116, 104]
def isT (n : ByteArray) : Bool := n.toList == [116, 105, 116, 108, 101]
def isHr (n : ByteArray) : Bool := n.toList == [104, 114, 101, 102]
def isSr (n : ByteArray) : Bool := n.toList == [115, 114, 99]

/-- A text's bytes. -/
def bytesL (s : ByteArray) : List Int := s.data.toList.map (fun b => (b.toNat : Int))

theorem bytesL_len (s : ByteArray) : (bytesL s).length = s.size := by unfold bytesL; rw [List.length_map, Array.length_toList]; rfl

theorem bytesL_at (s : ByteArray) (j : Nat) (hj : j < s.size) : (bytesL s).getD j 0 = ((s.data.toList.getD j 0).toNat : Int) := by
  have h : j < s.data.toList.length := by rw [Array.length_toList]; exact hj
  unfold bytesL
  rw [List.getD_eq_getElem?_getD, List.getD_eq_getElem?_getD, List.getElem?_map, List.getElem?_eq_getElem h]
  rfl

theorem bytes_at (w : World) (s : ByteArray) : BAt (Lib.bytesWorld w 5 s) (some ⟨w.heap.size, 0, none⟩) (bytesL s) := by
  by_cases h : s.size = 0
  · left
    exact List.eq_nil_of_length_eq_zero (by rw [bytesL_len]; exact h)
  · refine .inr ⟨_, _, rfl, by rw [Lib.bytesWorld_size]; omega, fun k hk => ?_⟩
    rw [bytesL_len] at hk
    rw [Nat.zero_add, Lib.bytesWorld_cell w 5 s k hk]
    unfold bv
    rw [bytesL_at s k hk]

/-- A link that may be. -/
def urlB (p : PO) (l : List Int) : Bool := !toldB l || (hasL schemesL (strS (schS l)) && hasL p.sc (strS (schS l)))

/-- What KeptValue answers where the policy has no fault. -/
def kvF (p : PO) (n : ByteArray) (l : List Int) : Int × List Int :=
  if (hasL p.at_ n && hasL attrsL n) = true then
    (if isW n = true then (wtC (strS l), bytesL (wtT (strS l)))
     else if clB l = true then (if (!isT n && !urlB p l) = true then (7, []) else (0, l)) else (5, []))
  else (4, [])

theorem kv_none {p : PO} {n : ByteArray} {l : List Int} (h : (hasL p.at_ n && hasL attrsL n) = false) : kvF p n l = (4, []) := by unfold kvF; rw [h]; rfl
theorem kv_width {p : PO} {n : ByteArray} {l : List Int} (h : (hasL p.at_ n && hasL attrsL n) = true) (hw : isW n = true) : kvF p n l = (wtC (strS l), bytesL (wtT (strS l))) := by unfold kvF; rw [if_pos h, if_pos hw]
theorem kv_text {p : PO} {n : ByteArray} {l : List Int} (h : (hasL p.at_ n && hasL attrsL n) = true) (hw : isW n = false) (hc : clB l = false) : kvF p n l = (5, []) := by unfold kvF; rw [if_pos h, hw, hc]; rfl
theorem kv_state {p : PO} {n : ByteArray} {l : List Int} (h : (hasL p.at_ n && hasL attrsL n) = true) (hw : isW n = false) (hc : clB l = true) (hs : (!isT n && !urlB p l) = true) : kvF p n l = (7, []) := by unfold kvF; rw [if_pos h, hw, hc, hs]; rfl
theorem kv_same {p : PO} {n : ByteArray} {l : List Int} (h : (hasL p.at_ n && hasL attrsL n) = true) (hw : isW n = false) (hc : clB l = true) (hs : (!isT n && !urlB p l) = false) : kvF p n l = (0, l) := by unfold kvF; rw [if_pos h, hw, hc, hs]; rfl

theorem clB_len {l : List Int} (h : clB l = true) : l.length ≤ 8 := by
  unfold clB at h
  rw [Bool.and_eq_true, decide_eq_true_eq] at h
  exact h.1

theorem name_of {n : ByteArray} (h : hasL attrsL n = true) (hw : isW n = false) : isT n = !(isHr n || isSr n) := by
  unfold hasL attrsL at h
  simp only [List.any_cons, List.any_nil, Bool.or_false, Bool.or_eq_true] at h
  unfold isT isHr isSr
  unfold isW at hw
  have e1 : (⟨#[104, 114, 101, 102]⟩ : ByteArray).toList = [104, 114, 101, 102] := by rw [ByteArray.toList_eq]
  have e2 : (⟨#[115, 114, 99]⟩ : ByteArray).toList = [115, 114, 99] := by rw [ByteArray.toList_eq]
  have e3 : (⟨#[116, 105, 116, 108, 101]⟩ : ByteArray).toList = [116, 105, 116, 108, 101] := by rw [ByteArray.toList_eq]
  have e4 : (⟨#[119, 105, 100, 116, 104]⟩ : ByteArray).toList = [119, 105, 100, 116, 104] := by rw [ByteArray.toList_eq]
  rw [e1, e2, e3, e4] at h
  rcases h with h | h | h | h
  · rw [beq_iff_eq] at h; rw [← h]; decide
  · rw [beq_iff_eq] at h; rw [← h]; decide
  · rw [beq_iff_eq] at h; rw [← h]; decide
  · rw [beq_iff_eq] at h; rw [← h] at hw; exact absurd hw (by decide)

set_option maxHeartbeats 1600000 in
theorem l8Url_any (p : PO) (g : Nat) (a b c : Option Addr) (n1 n2 n3 : Nat) (q : Option Addr) (d : Nat) (l : List Int) (w : World) (hr : w.rowIs g 32 3 (r3 (.slice a p.tg.length n1) (.slice b p.at_.length n2) (.slice c p.sc.length n3))) (ha : POAt w a b c p) (hp : (psz p : Int) ≤ 1048576) (hb : BAt w q l) (hu : ∀ k, k < l.length → 0 ≤ l.getD k 0 ∧ l.getD k 0 ≤ 255) (hl : (l.length : Int) ≤ 1048576) :
    Calls Tryz.prog 77 #[.pointer (some ⟨g, 0, none⟩), .slice q l.length d] w fun e w' => e = .returned (.bool (urlB p l)) ∧ Below w.heap.size w w' := by
  unfold psz at hp
  have KT := l8Told_any q d l w hb hl
  have KS := Hid.mk' (l8Scheme_any q d l w hb hu hl)
  have HR := Hid.mk' hr
  have HA := Hid.mk' ha
  clear hr ha hb hu
  unfold urlB
  cases ht : toldB l
  · rw [ht] at KT
    have KT := Hid.mk' KT
    go_enter Tryz.func77, Tryz.ntmps77
    go_wp2_with fail
    refine KT.out.mono ?_
    rintro e w1 ⟨rfl, hw⟩
    obtain rfl := hw.symm
    go_wp2
    go_ret
    exact ⟨rfl, Below.refl _ _⟩
  · rw [ht] at KT
    have KT := Hid.mk' KT
    generalize strS (schS l) = S at *
    go_enter Tryz.func77, Tryz.ntmps77
    go_wp2_with fail
    refine KT.out.mono ?_
    rintro e w1 ⟨rfl, hw⟩
    obtain rfl := hw.symm
    go_wp2_with fail
    refine KS.out.mono ?_
    rintro e w1 ⟨rfl, hb⟩
    have NB := below_new w1 (.cells #[.string ⟨#[104, 116, 116, 112]⟩, .string ⟨#[104, 116, 116, 112, 115]⟩, .string ⟨#[109, 97, 105, 108, 116, 111]⟩] 9)
    have LR := lit_row w1 #[.string ⟨#[104, 116, 116, 112]⟩, .string ⟨#[104, 116, 116, 112, 115]⟩, .string ⟨#[109, 97, 105, 108, 116, 111]⟩] schemesL rfl (fun i hi => by
      have : i = 0 ∨ i = 1 ∨ i = 2 := by simp [schemesL] at hi; omega
      rcases this with rfl | rfl | rfl <;> rfl)
    have B2 := hb.trans (NB.mono hb.size)
    have HB := Hid.mk' B2
    have HR := Hid.mk' (rowB HR.out B2)
    have K2 := Hid.mk' (l8Has_any c n3 p.sc S _ (HA.out.below B2).2.2 (by omega))
    have K1 := l8Has_any (some ⟨w1.heap.size, 0, none⟩) 3 schemesL S _ (.of_row LR) (by decide)
    clear hb NB LR B2 KS KT
    generalize hW : w1.alloc (.cells #[.string ⟨#[104, 116, 116, 112]⟩, .string ⟨#[104, 116, 116, 112, 115]⟩, .string ⟨#[109, 97, 105, 108, 116, 111]⟩] 9) = W at *
    obtain ⟨x0, x1, x2, x3⟩ := cellsP HR.out
    cases h1 : hasL schemesL S
    · rw [h1] at K1
      have K1 := Hid.mk' K1
      go_wp2_with fail
      clear hW
      refine K1.out.mono ?_
      rintro e w2 ⟨rfl, hw⟩
      obtain rfl := hw.symm
      go_wp2
      go_ret
      exact ⟨by simp [h1], HB.out⟩
    · rw [h1] at K1
      have K1 := Hid.mk' K1
      go_wp2_with fail
      clear hW
      refine K1.out.mono ?_
      rintro e w2 ⟨rfl, hw⟩
      obtain rfl := hw.symm
      go_wp2_with fail
      refine K2.out.mono ?_
      rintro e w2 ⟨rfl, hw⟩
      obtain rfl := hw.symm
      go_wp2
      go_ret
      exact ⟨by simp [h1], HB.out⟩

end Go.Proofs.YthhdfbgjdfoalaaGreatDoor

/- KeptValue: the model's side, to be read. -/
namespace Go.Proofs.YthhdfbgjdfoalaaGreatDoor
open Go.RowKit
set_option linter.unusedVariables false
set_option linter.unusedSimpArgs false

/-- What l8Kept leaves. -/
def KvP (p : PO) (n : ByteArray) (l : List Int) (w : World) (e : Ending) (w' : World) : Prop := ∃ v c', e = .returned (.tuple #[.slice v (kvF p n l).2.length c', .int .i64 (kvF p n l).1]) ∧ BAt w' v (kvF p n l).2 ∧ (∀ b o, v = some ⟨b, o, none⟩ → w.heap.size ≤ b) ∧ Below w.heap.size w w'

theorem kvP_nil {p : PO} {n : ByteArray} {l : List Int} {c : Int} {w w' : World} (h : kvF p n l = (c, [])) (hb : Below w.heap.size w w') : KvP p n l w (.returned (.tuple #[.slice none 0 0, .int .i64 c])) w' :=
  ⟨none, 0, by rw [h]; rfl, by rw [h]; exact .inl rfl, (fun b o e => by cases e), hb⟩

set_option maxRecDepth 100000 in
set_option maxHeartbeats 3200000 in
theorem l8Kept_any (p : PO) (g : Nat) (a b c : Option Addr) (n1 n2 n3 : Nat) (n : ByteArray) (q : Option Addr) (d : Nat) (l : List Int) (w : World) (hr : w.rowIs g 32 3 (r3 (.slice a p.tg.length n1) (.slice b p.at_.length n2) (.slice c p.sc.length n3))) (ha : POAt w a b c p) (hp : (psz p : Int) ≤ 1048576) (hb : BAt w q l) (hu : ∀ k, k < l.length → 0 ≤ l.getD k 0 ∧ l.getD k 0 ≤ 255) (hl : (l.length : Int) ≤ 1048576) :
    Calls Tryz.prog 48 #[.pointer (some ⟨g, 0, none⟩), .string n, .slice q l.length d] w fun e w' => KvP p n l w e w' := by
  have hp2 := hp
  unfold psz at hp2
  have NB := below_new w (.cells #[.string ⟨#[104, 114, 101, 102]⟩, .string ⟨#[115, 114, 99]⟩, .string ⟨#[116, 105, 116, 108, 101]⟩, .string ⟨#[119, 105, 100, 116, 104]⟩] 9)
  have LR := lit_row w #[.string ⟨#[104, 114, 101, 102]⟩, .string ⟨#[115, 114, 99]⟩, .string ⟨#[116, 105, 116, 108, 101]⟩, .string ⟨#[119, 105, 100, 116, 104]⟩] attrsL rfl (fun i hi => by
    have : i = 0 ∨ i = 1 ∨ i = 2 ∨ i = 3 := by simp [attrsL] at hi; omega
    rcases this with rfl | rfl | rfl | rfl <;> rfl)
  have K1 := l8Has_any (some ⟨w.heap.size, 0, none⟩) 4 attrsL n _ (.of_row LR) (by decide)
  have K2 := l8Has_any b n2 p.at_ n _ (ha.below NB).2.1 (by omega)
  have HB := Hid.mk' NB
  have HR := Hid.mk' (rowB hr NB)
  have HA := Hid.mk' (ha.below NB)
  have HV := Hid.mk' (hb.below NB)
  have HU := Hid.mk' hu
  clear NB LR hr ha hb hu
  generalize hW : w.alloc (.cells #[.string ⟨#[104, 114, 101, 102]⟩, .string ⟨#[115, 114, 99]⟩, .string ⟨#[116, 105, 116, 108, 101]⟩, .string ⟨#[119, 105, 100, 116, 104]⟩] 9) = W at *
  obtain ⟨x0, x1, x2, x3⟩ := cellsP HR.out
  cases h1 : hasL attrsL n
  · have E := Hid.mk' (kv_none (p := p) (n := n) (l := l) (by rw [h1, Bool.and_false]))
    rw [h1] at K1
    have K1 := Hid.mk' K1
    clear h1 K2
    go_enter Tryz.func48, Tryz.ntmps48
    go_wp2_with fail
    clear hW
    refine K1.out.mono ?_
    rintro e w2 ⟨rfl, hw⟩
    obtain rfl := hw.symm
    go_wp2_with go_big_skip
    go_ret2
    exact kvP_nil E.out HB.out
  rw [h1] at K1
  have K1 := Hid.mk' K1
  cases h2 : hasL p.at_ n
  · have E := Hid.mk' (kv_none (p := p) (n := n) (l := l) (by rw [h2, Bool.false_and]))
    rw [h2] at K2
    have K2 := Hid.mk' K2
    clear h1 h2
    go_enter Tryz.func48, Tryz.ntmps48
    go_wp2_with fail
    clear hW
    refine K1.out.mono ?_
    rintro e w2 ⟨rfl, hw⟩
    obtain rfl := hw.symm
    go_wp2_with fail
    refine K2.out.mono ?_
    rintro e w2 ⟨rfl, hw⟩
    obtain rfl := hw.symm
    go_wp2_with go_big_skip
    go_ret2
    exact kvP_nil E.out HB.out
  rw [h2] at K2
  have K2 := Hid.mk' K2
  have h12 : (hasL p.at_ n && hasL attrsL n) = true := by rw [h1, h2]; rfl
  clear h1 h2
  cases hw : isW n
  rotate_left
  · have E := Hid.mk' (kv_width (l := l) h12 hw)
    have hwn : (n.toList == [119, 105, 100, 116, 104]) = true := hw
    have hcv := conv_bytesS d HV.out
    have KT := Hid.mk' (specWT_any (strS l) W (by rw [strS_size]; omega))
    clear hw h12
    generalize strS l = SL at *
    go_enter Tryz.func48, Tryz.ntmps48
    go_wp2_with fail
    clear hW
    refine K1.out.mono ?_
    rintro e w2 ⟨rfl, hww⟩
    obtain rfl := hww.symm
    go_wp2_with fail
    refine K2.out.mono ?_
    rintro e w2 ⟨rfl, hww⟩
    obtain rfl := hww.symm
    go_wp2_with fail
    refine KT.out.mono ?_
    rintro e w2 ⟨rfl, hb2⟩
    have N2 := below_new w2 (.cells #[.int .i64 (wtC SL), .string (wtT SL)] 110)
    have B2 := hb2.trans (N2.mono hb2.size)
    have HB := Hid.mk' (HB.out.trans (B2.mono HB.out.size))
    have RT := rowQ2 w2 110 (.int .i64 (wtC SL)) (.string (wtT SL))
    clear hb2 N2 B2 KT hcv
    generalize hW2 : w2.alloc (.cells #[.int .i64 (wtC SL), .string (wtT SL)] 110) = W2 at *
    obtain ⟨t0, t1, t2⟩ := cellsQ2 RT
    generalize hC : wtC SL = C at *
    generalize hT : wtT SL = T at *
    have hcv : ∀ X : World, (convert 9 51 (.string T)).run Tryz.prog X = .ok (.slice (some ⟨X.heap.size, 0, none⟩) T.size (grownCap X T.size 0 5)) (Lib.bytesWorld X 5 T) := fun X => Lib.run_convert_string_bytes (P := Tryz.prog) X 9 51 5 T Tryz.underlying9 Tryz.underlying51 Tryz.underlying5
    have hold : ∀ (X : World) (b o : Nat), b < X.heap.size → (Lib.bytesWorld X 5 T).cell? ⟨b, o, none⟩ = X.cell? ⟨b, o, none⟩ := fun X b o h => Lib.bytesWorld_old X 5 T ⟨b, o, none⟩ h
    go_wp2_with fail
    have t0' : W2.drew.cell? ⟨w2.heap.size, 0, none⟩ = some (.int .i64 C) := t0
    have t1' : W2.drew.cell? ⟨w2.heap.size, 1, none⟩ = some (.string T) := t1
    have t2' : w2.heap.size < W2.drew.heap.size := t2
    refine wp_region_held_drew (S := (fun w' => w'.cell? ⟨w2.heap.size, 0, none⟩ = some (.int .i64 C) ∧ w'.cell? ⟨w2.heap.size, 1, none⟩ = some (.string T))) (by kernel_rfl) (by simp [*]) (fun hHeld => ?_)
    refine wpAnyH_take (i := 0) (oi := ⟨_, _, _, _, _, _⟩) (v := ?_) rfl (by kernel_rfl) (by kernel_rfl) (by kernel_rfl) (fun _ _ _ h => h) (Or.inl ⟨by rfl, ?_⟩) (by assumption) ?_
    rotate_left
    · (intro w hSw; (try dsimp only at hSw); go_simp; (try with_reducible rfl))
    try simp only [Act.put, List.setIfInBounds_toArray, List.set_cons_zero, List.set_cons_succ]
    refine wpAnyH_take (i := 1) (oi := ⟨_, _, _, _, _, _⟩) (v := ?_) rfl (by kernel_rfl) (by kernel_rfl) (by kernel_rfl) (fun _ _ _ h => h) (Or.inl ⟨by rfl, ?_⟩) (by assumption) ?_
    rotate_left
    · (intro w hSw; (try dsimp only at hSw); go_simp; (try with_reducible rfl))
    try simp only [Act.put, List.setIfInBounds_toArray, List.set_cons_zero, List.set_cons_succ]
    refine wpAnyH_take (i := 3) (oi := ⟨_, _, _, _, _, _⟩) (v := ?_) rfl (by kernel_rfl) (by kernel_rfl) (by kernel_rfl) (fun _ _ _ h => h) (Or.inl ⟨by rfl, ?_⟩) (by assumption) ?_
    rotate_left
    · (intro w hSw; (try dsimp only at hSw); go_simp; (try with_reducible rfl))
    try simp only [Act.put, List.setIfInBounds_toArray, List.set_cons_zero, List.set_cons_succ]
    refine wpAnyH_take (i := 4) (oi := ⟨_, _, _, _, _, _⟩) (v := ?_) rfl (by kernel_rfl) (by kernel_rfl) (by kernel_rfl) (fun _ _ _ h => h) (Or.inl ⟨by rfl, ?_⟩) (by assumption) ?_
    rotate_left
    · (intro w hSw; (try dsimp only at hSw); go_simp; (try with_reducible rfl))
    try simp only [Act.put, List.setIfInBounds_toArray, List.set_cons_zero, List.set_cons_succ]
    refine wpAnyH_ready (rs := [2]) (by kernel_rfl) (by simp) ?_
    refine AllReadyH.cons (o := ⟨_, _, _, _, _, _⟩) rfl (fun K hK => ?_) AllReadyH.nil
    go_simp
    refine hK.out _ _ ⟨(hold _ _ _ t2').trans t0', (hold _ _ _ t2').trans t1'⟩ (fun hHeld => ?_)
    clear hK K
    try simp only [Act.put, List.setIfInBounds_toArray, List.set_cons_zero, List.set_cons_succ]
    refine wpAnyH_take (i := 5) (oi := ⟨_, _, _, _, _, _⟩) (v := ?_) rfl (by kernel_rfl) (by kernel_rfl) (by kernel_rfl) (fun _ _ _ h => h) (Or.inl ⟨by rfl, ?_⟩) (by assumption) ?_
    rotate_left
    · (intro w hSw; (try dsimp only at hSw); go_simp; (try with_reducible rfl))
    try simp only [Act.put, List.setIfInBounds_toArray, List.set_cons_zero, List.set_cons_succ]
    refine wpAnyH_take (i := 6) (oi := ⟨_, _, _, _, _, _⟩) (v := ?_) rfl (by kernel_rfl) (by kernel_rfl) (by kernel_rfl) (fun _ _ _ h => h) (Or.inl ⟨by rfl, ?_⟩) (by assumption) ?_
    rotate_left
    · (intro w hSw; (try dsimp only at hSw); go_simp; (try with_reducible rfl))
    try simp only [Act.put, List.setIfInBounds_toArray, List.set_cons_zero, List.set_cons_succ]
    refine wpAnyH_done (by kernel_rfl) ?_ _
    have HBW := Hid.mk' (show Below W2.heap.size W2 (Lib.bytesWorld W2.drew 5 T) from undrew (Lib.bytesWorld_below W2.drew 5 T))
    have HAT := Hid.mk' (show BAt (Lib.bytesWorld W2.drew 5 T) (some ⟨W2.heap.size, 0, none⟩) (bytesL T) from bytes_at W2.drew T)
    have HL := Hid.mk' (bytesL_len T)
    have HSZ := Hid.mk' HB.out.size
    have HB := Hid.mk' (HB.out.trans (HBW.out.mono HB.out.size))
    clear hcv hold hHeld t0 t1 t2 t0' t1' t2' HBW hW2
    generalize Lib.bytesWorld W2.drew 5 T = W3 at *
    generalize grownCap W2.drew T.size 0 5 = cp at *
    go_wp2
    go_ret2
    refine ⟨some ⟨W2.heap.size, 0, none⟩, cp, ?_, ?_, (fun b o e => by cases e; exact HSZ.out), HB.out⟩
    · rw [E.out]
      show _ = Ending.returned (.tuple #[.slice _ (bytesL T).length _, .int .i64 C])
      rw [HL.out]
      rfl
    · rw [E.out]
      exact HAT.out
  · have hwn : (n.toList == [119, 105, 100, 116, 104]) = false := hw
    have KC := l8Clean_any q d l W HV.out hl
    cases hc : clB l
    · have E := Hid.mk' (kv_text h12 hw hc)
      rw [hc] at KC
      have KC := Hid.mk' KC
      clear hw h12 hc
      go_enter Tryz.func48, Tryz.ntmps48
      go_wp2_with fail
      clear hW
      refine K1.out.mono ?_
      rintro e w2 ⟨rfl, hww⟩
      obtain rfl := hww.symm
      go_wp2_with fail
      refine K2.out.mono ?_
      rintro e w2 ⟨rfl, hww⟩
      obtain rfl := hww.symm
      go_wp2_with fail
      refine KC.out.mono ?_
      rintro e w2 ⟨rfl, hww⟩
      obtain rfl := hww.symm
      go_wp2
      go_ret2
      exact kvP_nil E.out HB.out
    rw [hc] at KC
    have KC := Hid.mk' KC
    have KU := l8Url_any p g a b c n1 n2 n3 q d l W HR.out HA.out hp HV.out HU.out hl
    have KL : Hid (∀ X : World, Below W.heap.size W X → Calls Tryz.prog 78 #[.slice q l.length d] X fun e w' => ∃ v, e = .returned v ∧ OB w' v l ∧ In X.heap.size w'.heap.size v ∧ Below X.heap.size X w') := Hid.mk' (fun X hb => l1Copy_any q d l X (HV.out.below hb) hl)
    have SM : Hid ((!isT n && !urlB p l) = false → kvF p n l = (0, l)) := Hid.mk' (kv_same h12 hw hc)
    have ST : Hid ((!isT n && !urlB p l) = true → kvF p n l = (7, [])) := Hid.mk' (kv_state h12 hw hc)
    clear hw h12 hc
    cases ht : isT n
    · have htn : (n.toList == [116, 105, 116, 108, 101]) = false := ht
      cases hur : urlB p l
      · have E := Hid.mk' (ST.out (by rw [ht, hur]; rfl))
        rw [hur] at KU
        have KU := Hid.mk' KU
        clear ht hur SM ST KL
        go_enter Tryz.func48, Tryz.ntmps48
        go_wp2_with fail
        clear hW
        refine K1.out.mono ?_
        rintro e w2 ⟨rfl, hww⟩
        obtain rfl := hww.symm
        go_wp2_with fail
        refine K2.out.mono ?_
        rintro e w2 ⟨rfl, hww⟩
        obtain rfl := hww.symm
        go_wp2_with fail
        refine KC.out.mono ?_
        rintro e w2 ⟨rfl, hww⟩
        obtain rfl := hww.symm
        go_wp2_with fail
        refine KU.out.mono ?_
        rintro e w2 ⟨rfl, hb2⟩
        have HB := Hid.mk' (HB.out.trans (hb2.mono HB.out.size))
        clear hb2
        go_wp2
        go_ret2
        exact kvP_nil E.out HB.out
      · have E := Hid.mk' (SM.out (by rw [ht, hur]; rfl))
        rw [hur] at KU
        have KU := Hid.mk' KU
        clear ht hur SM ST
        go_enter Tryz.func48, Tryz.ntmps48
        go_wp2_with fail
        clear hW
        refine K1.out.mono ?_
        rintro e w2 ⟨rfl, hww⟩
        obtain rfl := hww.symm
        go_wp2_with fail
        refine K2.out.mono ?_
        rintro e w2 ⟨rfl, hww⟩
        obtain rfl := hww.symm
        go_wp2_with fail
        refine KC.out.mono ?_
        rintro e w2 ⟨rfl, hww⟩
        obtain rfl := hww.symm
        go_wp2_with fail
        refine KU.out.mono ?_
        rintro e w2 ⟨rfl, hb2⟩
        have HB := Hid.mk' (HB.out.trans (hb2.mono HB.out.size))
        have HB2 := Hid.mk' hb2
        clear hb2
        go_wp2_with fail
        refine (KL.out _ HB2.out).mono ?_
        rintro e w3 ⟨v, rfl, ob, hin, hb3⟩
        obtain ⟨va, vc, rfl, hat⟩ := ob.len
        have HAT := Hid.mk' hat
        have HIN : Hid (∀ b o, va = some ⟨b, o, none⟩ → w.heap.size ≤ b) := Hid.mk' (fun b o e => by subst e; exact Nat.le_trans HB.out.size (hin b rfl).1)
        have HB := Hid.mk' (HB.out.trans (hb3.mono HB.out.size))
        clear hb3 ob hat hin
        go_wp2
        go_ret2
        exact ⟨va, vc, by rw [E.out]; rfl, by rw [E.out]; exact HAT.out, HIN.out, HB.out⟩
    · have htn : (n.toList == [116, 105, 116, 108, 101]) = true := ht
      have E := Hid.mk' (SM.out (by rw [ht]; rfl))
      clear ht SM ST KU
      go_enter Tryz.func48, Tryz.ntmps48
      go_wp2_with fail
      clear hW
      refine K1.out.mono ?_
      rintro e w2 ⟨rfl, hww⟩
      obtain rfl := hww.symm
      go_wp2_with fail
      refine K2.out.mono ?_
      rintro e w2 ⟨rfl, hww⟩
      obtain rfl := hww.symm
      go_wp2_with fail
      refine KC.out.mono ?_
      rintro e w2 ⟨rfl, hww⟩
      obtain rfl := hww.symm
      go_wp2_with fail
      refine (KL.out _ (Below.refl _ _)).mono ?_
      rintro e w3 ⟨v, rfl, ob, hin, hb3⟩
      obtain ⟨va, vc, rfl, hat⟩ := ob.len
      have HAT := Hid.mk' hat
      have HIN : Hid (∀ b o, va = some ⟨b, o, none⟩ → w.heap.size ≤ b) := Hid.mk' (fun b o e => by subst e; exact Nat.le_trans HB.out.size (hin b rfl).1)
      have HB := Hid.mk' (HB.out.trans (hb3.mono HB.out.size))
      clear hb3 ob hat hin
      go_wp2
      go_ret2
      exact ⟨va, vc, by rw [E.out]; rfl, by rw [E.out]; exact HAT.out, HIN.out, HB.out⟩

end Go.Proofs.YthhdfbgjdfoalaaGreatDoor

/- KeptValue and MayValue: the model's side; the program's small ones. -/
namespace Go.Proofs.YthhdfbgjdfoalaaGreatDoor
open Go.RowKit Go.Maps
set_option linter.unusedVariables false
set_option linter.unusedSimpArgs false

/-- What KeptValue answers. -/
def kvP (p : PO) (n : ByteArray) (l : List Int) : Int × List Int := if polF p = 0 then (if (kvF p n l).1 = 0 then kvF p n l else ((kvF p n l).1, [])) else (polF p, [])

theorem kvP_bad {p : PO} {n : ByteArray} {l : List Int} (h : ¬ polF p = 0) : kvP p n l = (polF p, []) := by unfold kvP; rw [if_neg h]
theorem kvP_code {p : PO} {n : ByteArray} {l : List Int} (h : polF p = 0) (h2 : ¬ (kvF p n l).1 = 0) : kvP p n l = ((kvF p n l).1, []) := by unfold kvP; rw [if_pos h, if_neg h2]
theorem kvP_good {p : PO} {n : ByteArray} {l : List Int} (h : polF p = 0) (h2 : (kvF p n l).1 = 0) : kvP p n l = kvF p n l := by unfold kvP; rw [if_pos h, if_pos h2]

/-- What KeptValue leaves, to be read. -/
def KrP (p : PO) (n : ByteArray) (l : List Int) (w : World) (e : Ending) (w' : World) : Prop := ∃ v c', e = .returned (.agg #[.int .i64 (kvP p n l).1, .slice v (kvP p n l).2.length c']) ∧ BAt w' v (kvP p n l).2 ∧ Below w.heap.size w w'

theorem krP_nil {p : PO} {n : ByteArray} {l : List Int} {c : Int} {w w' : World} (h : kvP p n l = (c, [])) (hb : Below w.heap.size w w') : KrP p n l w (.returned (.agg #[.int .i64 c, .slice none 0 0])) w' :=
  ⟨none, 0, by rw [h]; rfl, by rw [h]; exact .inl rfl, hb⟩

/-- The boxes of the model's KeptValue: the policy's, the answer's. -/
theorem boxesK (w : World) (x0 x1 x2 : Value) :
    let W := (w.alloc (.cells #[x0, x1, x2] 32)).alloc (.cells #[.int .i64 0, .slice none 0 0] 92)
    Below w.heap.size w W ∧ W.rowIs w.heap.size 32 3 (r3 x0 x1 x2) ∧ W.rowIs (w.heap.size + 1) 92 2 (q2 (.int .i64 0) (.slice none 0 0)) := by
  refine ⟨(below_new w _).alloc (by simp) _, (row3 w _ x0 x1 x2).alloc _, ?_⟩
  have := rowQ2 (w.alloc (.cells #[x0, x1, x2] 32)) 92 (.int .i64 0) (.slice none 0 0)
  rw [show (w.alloc (.cells #[x0, x1, x2] 32)).heap.size = w.heap.size + 1 by simp] at this
  exact this

theorem BAt.setTwo {w : World} {v : Option Addr} {l : List Int} {g : Nat} {x y : Value} (h : BAt w v l) (hg : ∀ b o, v = some ⟨b, o, none⟩ → l ≠ [] → b ≠ g) : BAt ((w.setCell ⟨g, 0, none⟩ x).setCell ⟨g, 1, none⟩ y) v l := by
  rcases h with h | ⟨b, o, e, hs, hc⟩
  · exact .inl h
  · by_cases hl : l = []
    · exact .inl hl
    · refine .inr ⟨b, o, e, by simpa using hs, fun k hk => ?_⟩
      have hne := hg b o e hl
      rw [World.cell?_setCell_other _ _ _ _ (by simp [Ne.symm hne]; try (intro h; exact absurd h.symm hne)), World.cell?_setCell_other _ _ _ _ (by simp [Ne.symm hne]; try (intro h; exact absurd h.symm hne))]
      exact hc k hk

/-- Whether a value may be. -/
def mvB (p : PO) (n : ByteArray) (l : List Int) : Bool := decide ((kvP p n l).1 = 0) && ((strS (kvP p n l).2).toList == (strS l).toList)

end Go.Proofs.YthhdfbgjdfoalaaGreatDoor

/- The program's small ones of KeptValue: a width, a link. -/
namespace Go.Proofs.YthhdfbgjdfoalaaGreatDoor
open Go.RowKit Go.Maps
set_option linter.unusedVariables false
set_option linter.unusedSimpArgs false

/-- Bytes that may be written. -/
def FrA (w : World) (v : Option Addr) (n : Nat) : Prop := ∀ b o, v = some ⟨b, o, none⟩ → ∀ k, k < n → w.frozen? ⟨b, o + k, none⟩ = false

theorem FrA.row {w : World} {g t n m : Nat} {f : Nat → Value} (h : w.rowIs g t m f) : FrA w (some ⟨g, 0, none⟩) n := fun b o e k _ => by cases e; exact h.frozen _

theorem FrA.setTwo {w : World} {v : Option Addr} {n : Nat} {a b : Addr} {x y : Value} (h : FrA w v n) : FrA ((w.setCell a x).setCell b y) v n := fun b o e k hk => by
  rw [World.frozen?_setCell, World.frozen?_setCell]; exact h b o e k hk

theorem bytes_free (w : World) (s : ByteArray) : FrA (Lib.bytesWorld w 5 s) (some ⟨w.heap.size, 0, none⟩) s.size := fun b o e k hk => by
  cases e
  unfold World.frozen?
  rw [Lib.bytesWorld_at_new]
  have : s.size ≤ (Lib.bytesCells w 5 s).size := by
    unfold Lib.bytesCells
    rw [Array.size_append, Array.size_map]
    exact Nat.le_add_right _ _
  have h2 : decide ((Lib.bytesCells w 5 s).size ≤ 0 + k) = false := by rw [decide_eq_false_iff_not]; omega
  simp only [h2, Bool.false_and]

/-- An answer of bytes, to be read and written. -/
def KqP (r : Int × List Int) (w : World) (e : Ending) (w' : World) : Prop := ∃ v c', e = .returned (.agg #[.int .i64 r.1, .slice v r.2.length c']) ∧ BAt w' v r.2 ∧ FrA w' v r.2.length ∧ (∀ b o, v = some ⟨b, o, none⟩ → w.heap.size ≤ b) ∧ Below w.heap.size w w'

theorem kqP_nil {r : Int × List Int} {c : Int} {w w' : World} (h : r = (c, [])) (hb : Below w.heap.size w w') : KqP r w (.returned (.agg #[.int .i64 c, .slice none 0 0])) w' :=
  ⟨none, 0, by rw [h]; rfl, by rw [h]; exact .inl rfl, (fun b o e => by cases e), (fun b o e => by cases e), hb⟩

/-- What a width answers. -/
def kwF (s : ByteArray) : Int × List Int := if wtC s = 0 then (0, bytesL (wtT s)) else (wtC s, [])

theorem kwF_bad {s : ByteArray} (h : ¬ wtC s = 0) : kwF s = (wtC s, []) := by unfold kwF; rw [if_neg h]
theorem kwF_good {s : ByteArray} (h : wtC s = 0) : kwF s = (0, bytesL (wtT s)) := by unfold kwF; rw [if_pos h]

set_option maxRecDepth 100000 in
set_option maxHeartbeats 3200000 in
theorem keptWidth_any (q : Option Addr) (d : Nat) (l : List Int) (w : World) (hb : BAt w q l) (hl : (l.length : Int) ≤ 1048576) (t : TBS w) :
    Calls Tryz.prog 81 #[.slice q l.length d] w fun e w' => KqP (kwF (strS l)) w e w' := by
  have N0 := below_new w (.cells #[.int .i64 0, .slice none 0 0] 92)
  have HB0 := Hid.mk' N0
  have HR := Hid.mk' (rowQ2 w 92 (.int .i64 0) (.slice none 0 0))
  have hcv := conv_bytesS d (hb.below N0)
  have KT := Hid.mk' (implWT_any (strS l) _ (by rw [strS_size]; omega) (t.below N0))
  clear hb t N0
  generalize hW : w.alloc (.cells #[.int .i64 0, .slice none 0 0] 92) = W at *
  generalize strS l = SL at *
  go_enter Tryz.func81, Tryz.ntmps81
  go_wp2_with fail
  clear hW
  refine KT.out.mono ?_
  rintro e w2 ⟨rfl, hb2⟩
  have N2 := below_new w2 (.cells #[.int .i64 (wtC SL), .string (wtT SL)] 110)
  have B2 := hb2.trans (N2.mono hb2.size)
  have HB := Hid.mk' (HB0.out.trans (B2.mono HB0.out.size))
  have HR2 := Hid.mk' (rowB HR.out B2)
  obtain ⟨y0, y1, y2⟩ := cellsQ2 (rowB HR.out B2)
  obtain ⟨f0, f1⟩ := frzQ2 (rowB HR.out B2)
  have RT := rowQ2 w2 110 (.int .i64 (wtC SL)) (.string (wtT SL))
  clear hb2 N2 B2 KT hcv
  generalize hW2 : w2.alloc (.cells #[.int .i64 (wtC SL), .string (wtT SL)] 110) = W2 at *
  obtain ⟨t0, t1, t2⟩ := cellsQ2 RT
  by_cases h0 : wtC SL = 0
  · have E := Hid.mk' (kwF_good h0)
    have h0b : (wtC SL != 0) = false := by simp [h0]
    generalize hT : wtT SL = T at *
    generalize hC : wtC SL = C at *
    clear hC hT h0
    have hcv : ∀ X : World, (convert 9 51 (.string T)).run Tryz.prog X = .ok (.slice (some ⟨X.heap.size, 0, none⟩) T.size (grownCap X T.size 0 5)) (Lib.bytesWorld X 5 T) := fun X => Lib.run_convert_string_bytes (P := Tryz.prog) X 9 51 5 T Tryz.underlying9 Tryz.underlying51 Tryz.underlying5
    have HBW := Hid.mk' (show Below W2.heap.size W2 (Lib.bytesWorld W2 5 T) from Lib.bytesWorld_below W2 5 T)
    have HAT := Hid.mk' (show BAt (Lib.bytesWorld W2 5 T) (some ⟨W2.heap.size, 0, none⟩) (bytesL T) from bytes_at W2 T)
    have HL := Hid.mk' (bytesL_len T)
    have HFA := Hid.mk' (bytes_free W2 T)
    have HSZ := Hid.mk' y2
    have HSW := Hid.mk' HB.out.size
    obtain ⟨z0, z1, z2⟩ := cellsQ2 (rowB HR2.out HBW.out)
    obtain ⟨g0, g1⟩ := frzQ2 (rowB HR2.out HBW.out)
    go_wp2_with fail
    have HB3 := Hid.mk' (HB.out.trans (HBW.out.mono HB.out.size))
    generalize Lib.bytesWorld W2 5 T = W3 at *
    generalize grownCap W2 T.size 0 5 = cp at *
    refine bodyPost_ret (v := .agg #[.int .i64 0, .slice (some ⟨W2.heap.size, 0, none⟩) T.size cp]) (by simp [results, Tryz.results81, go_sem, *]) rfl ?_
    refine ⟨some ⟨W2.heap.size, 0, none⟩, cp, ?_, ?_, ?_, (fun b o e => by cases e; exact HSW.out), (HB3.out.setCell (p := ⟨w.heap.size, 0, none⟩) (by simp) _).setCell (p := ⟨w.heap.size, 1, none⟩) (by simp) _⟩
    · rw [E.out]
      show _ = Ending.returned (.agg #[.int .i64 0, .slice _ (bytesL T).length _])
      rw [HL.out]
    · rw [E.out]
      exact HAT.out.setTwo (fun b o e _ => by cases e; have := HSZ.out; omega)
    · rw [E.out]
      show FrA _ _ (bytesL T).length
      rw [HL.out]
      exact HFA.out.setTwo
  · have E := Hid.mk' (kwF_bad h0)
    have h0b : (wtC SL != 0) = true := by simp [h0]
    generalize wtT SL = T at *
    generalize wtC SL = C at *
    clear h0
    go_wp2_with fail
    refine bodyPost_ret (v := .agg #[.int .i64 C, .slice none 0 0]) (by simp [results, Tryz.results81, go_sem, *]) rfl ?_
    exact kqP_nil E.out ((HB.out.setCell (p := ⟨w.heap.size, 0, none⟩) (by simp) _).setCell (p := ⟨w.heap.size, 1, none⟩) (by simp) _)

/-- Schemes of a clean value. -/
theorem sch_clean {l : List Int} (h : clB l = true) : schC l = (if schS l = [] then 4 else 0) ∧ schT l = strS (schS l) := by
  have h8 := clB_len h
  unfold schC schT
  simp only [if_neg (show ¬ 240 < l.length by omega)]
  exact ⟨trivial, trivial⟩

theorem url_clean {p : PO} {l : List Int} (h : clB l = true) (ht : toldB l = true) : urlB p l = (decide (schC l = 0) && (hasL p.sc (schT l) && hasL schemesL (schT l))) := by
  obtain ⟨e1, e2⟩ := sch_clean h
  unfold urlB
  rw [ht, e1, e2]
  by_cases hs : schS l = []
  · rw [if_pos hs, hs]
    have : hasL schemesL (strS []) = false := by decide +kernel
    rw [this]
    rfl
  · rw [if_neg hs]
    simp only [Bool.not_true, Bool.false_or]
    rw [Bool.and_comm]
    simp

set_option maxRecDepth 100000 in
set_option maxHeartbeats 3200000 in
theorem mayLink_any (p : PO) (b1 b2 b3 g c lo : Nat) (l : List Int) (w : World) (hm : PM p lo b1 b2 b3 w) (hr : w.rowIs g 5 l.length (bv l)) (hc : l.length ≤ c) (hcl : clB l = true) (hu : ∀ k, k < l.length → 0 ≤ l.getD k 0 ∧ l.getD k 0 ≤ 255) :
    Calls Tryz.prog 83 #[.agg #[.map (some b1), .map (some b2), .map (some b3)], .slice (some ⟨g, 0, none⟩) l.length c] w fun e w' => e = .returned (.bool (urlB p l)) ∧ Below w.heap.size w w' := by
  have h8 := clB_len hcl
  have N0 := below_new w (.cells #[.map (some b1), .map (some b2), .map (some b3)] 63)
  have HB0 := Hid.mk' N0
  have HX := Hid.mk' (row3 w 63 (.map (some b1)) (.map (some b2)) (.map (some b3)))
  have HM := Hid.mk' (hm.below N0)
  have HR := Hid.mk' (rowB hr N0)
  have KA := asksScheme_any g c l _ (rowB hr N0) hc hcl hu
  clear hm hr N0
  generalize hW : w.alloc (.cells #[.map (some b1), .map (some b2), .map (some b3)] 63) = W at *
  cases ht : toldB l
  · have E : Hid (urlB p l = true) := Hid.mk' (by unfold urlB; rw [ht]; rfl)
    rw [ht] at KA
    have KA := Hid.mk' KA
    generalize urlB p l = B at *
    clear hu hcl
    go_enter Tryz.func83, Tryz.ntmps83
    go_wp2_with fail
    clear hW
    refine KA.out.mono ?_
    rintro e w1 ⟨rfl, hb⟩
    have HB := Hid.mk' (HB0.out.trans (hb.mono HB0.out.size))
    clear hb
    go_wp2
    go_ret
    exact ⟨by rw [E.out]; rfl, HB.out⟩
  · have E := Hid.mk' (url_clean (p := p) hcl ht)
    have KS : Hid (∀ X : World, Below W.heap.size W X → Calls Tryz.prog 110 #[.slice (some ⟨g, 0, none⟩) l.length c] X fun e w' => e = .returned (.agg #[.int .i64 (schC l), .string (schT l)]) ∧ Below X.heap.size X w') := Hid.mk' (fun X hX => implSO_any g c l X (rowB HR.out hX) hc hu (by omega))
    have HS : Hid (((schT l).size : Int) ≤ 1048576) := Hid.mk' (by
      rw [(sch_clean hcl).2, strS_size]
      unfold schS
      split
      · rw [List.length_map, List.length_take]; omega
      · simp)
    rw [ht] at KA
    have KA := Hid.mk' KA
    generalize urlB p l = B at *
    clear hu hcl ht
    generalize schC l = C at *
    generalize schT l = T at *
    go_enter Tryz.func83, Tryz.ntmps83
    go_wp2_with fail
    clear hW
    refine KA.out.mono ?_
    rintro e w1 ⟨rfl, hb⟩
    have HB := Hid.mk' (HB0.out.trans (hb.mono HB0.out.size))
    have KS1 := Hid.mk' (KS.out _ hb)
    have HM1 := Hid.mk' (HM.out.below hb)
    have HX1 := Hid.mk' (rowB HX.out hb)
    clear hb KA KS
    go_wp2_with fail
    refine KS1.out.mono ?_
    rintro e w2 ⟨rfl, hb⟩
    have N2 := below_new w2 (.cells #[.int .i64 C, .string T] 110)
    have B2 := hb.trans (N2.mono hb.size)
    have HB := Hid.mk' (HB.out.trans (B2.mono HB.out.size))
    have KH := Hid.mk' (hasW_any b3 _ T _ (HM1.out.below B2).s HS.out)
    obtain ⟨x0, x1, x2, x3⟩ := cellsP (rowB HX1.out B2)
    obtain ⟨t0, t1, t2⟩ := cellsQ2 (rowQ2 w2 110 (.int .i64 C) (.string T))
    clear hb N2 B2 KS1
    generalize hW2 : w2.alloc (.cells #[.int .i64 C, .string T] 110) = W2 at *
    by_cases h0 : C = 0
    · have h0b : (C == 0) = true := by rw [beq_iff_eq]; exact h0
      have E : Hid (B = (hasL p.sc T && hasL schemesL T)) := Hid.mk' (by rw [E.out, decide_eq_true h0, Bool.true_and])
      clear h0
      go_wp2_with fail
      clear hW2
      refine KH.out.mono ?_
      rintro e w3 ⟨rfl, hb⟩
      have HB := Hid.mk' (HB.out.trans (hb.mono HB.out.size))
      clear hb
      go_wp2
      go_ret
      exact ⟨by rw [E.out]; rfl, HB.out⟩
    · have h0b : (C == 0) = false := by rw [beq_eq_false_iff_ne]; exact h0
      have E : Hid (B = false) := Hid.mk' (by rw [E.out, decide_eq_false h0, Bool.false_and])
      clear h0
      go_wp2
      go_ret
      exact ⟨by rw [E.out]; rfl, HB.out⟩

end Go.Proofs.YthhdfbgjdfoalaaGreatDoor

/- KeptValue and MayValue: the program's side. -/
namespace Go.Proofs.YthhdfbgjdfoalaaGreatDoor
open Go.RowKit Go.Maps
set_option linter.unusedVariables false
set_option linter.unusedSimpArgs false

/-- What a value is kept as. -/
def krF (p : PO) (n : ByteArray) (l : List Int) : Int × List Int := if (kvF p n l).1 = 0 then kvF p n l else ((kvF p n l).1, [])

theorem krF_code {p : PO} {n : ByteArray} {l : List Int} {c : Int} (h : kvF p n l = (c, [])) : krF p n l = (c, []) := by
  unfold krF; rw [h]; split <;> rfl

theorem krF_width {p : PO} {n : ByteArray} {l : List Int} (h : (hasL p.at_ n && hasL attrsL n) = true) (hw : isW n = true) : krF p n l = kwF (strS l) := by
  unfold krF kwF; rw [kv_width h hw]
  by_cases h0 : wtC (strS l) = 0
  · rw [if_pos h0, if_pos h0, h0]
  · rw [if_neg h0, if_neg h0]

theorem krF_same {p : PO} {n : ByteArray} {l : List Int} (h : kvF p n l = (0, l)) : krF p n l = (0, l) := by
  unfold krF; rw [h]; rfl

theorem kvP_kr {p : PO} {n : ByteArray} {l : List Int} (h : polF p = 0) : kvP p n l = krF p n l := by unfold kvP krF; rw [if_pos h]

/-- The boxes of the program's KeptValue: what is let in, the answer's. -/
theorem boxesV (w : World) (x0 x1 x2 : Value) :
    let W := (w.alloc (.cells #[x0, x1, x2] 63)).alloc (.cells #[.int .i64 0, .slice none 0 0] 92)
    Below w.heap.size w W ∧ W.rowIs w.heap.size 63 3 (r3 x0 x1 x2) ∧ W.rowIs (w.heap.size + 1) 92 2 (q2 (.int .i64 0) (.slice none 0 0)) := by
  refine ⟨(below_new w _).alloc (by simp) _, (row3 w _ x0 x1 x2).alloc _, ?_⟩
  have := rowQ2 (w.alloc (.cells #[x0, x1, x2] 63)) 92 (.int .i64 0) (.slice none 0 0)
  rw [show (w.alloc (.cells #[x0, x1, x2] 63)).heap.size = w.heap.size + 1 by simp] at this
  exact this

set_option maxRecDepth 100000 in
set_option maxHeartbeats 6400000 in
theorem keptValue_any (p : PO) (b1 b2 b3 g c lo : Nat) (n : ByteArray) (l : List Int) (w : World) (hm : PM p lo b1 b2 b3 w) (hr : w.rowIs g 5 l.length (bv l)) (hc : l.length ≤ c) (hn : (n.size : Int) ≤ 1048576) (hu : ∀ k, k < l.length → 0 ≤ l.getD k 0 ∧ l.getD k 0 ≤ 255) (hl : (l.length : Int) ≤ 1048576) (t : TBS w) :
    Calls Tryz.prog 56 #[.agg #[.map (some b1), .map (some b2), .map (some b3)], .string n, .slice (some ⟨g, 0, none⟩) l.length c] w fun e w' => KqP (krF p n l) w e w' := by
  obtain ⟨N0, RX, RR⟩ := boxesV w (.map (some b1)) (.map (some b2)) (.map (some b3))
  have KH : Calls Tryz.prog 70 #[.map (some b2), .string n] _ fun e w' => e = .returned (.bool (hasL p.at_ n && hasL attrsL n)) ∧ Below _ _ w' := hasW_any b2 _ n _ (hm.below N0).a hn
  have HB := Hid.mk' N0
  have HM := Hid.mk' (hm.below N0)
  have HV := Hid.mk' (rowB hr N0)
  have HT := Hid.mk' (t.below N0)
  have HX := Hid.mk' RX
  have HR := Hid.mk' RR
  have HU := Hid.mk' hu
  obtain ⟨x0, x1, x2, x3⟩ := cellsP RX
  clear hm hr t N0 RX RR hu
  generalize hW : (w.alloc (.cells #[.map (some b1), .map (some b2), .map (some b3)] 63)).alloc (.cells #[.int .i64 0, .slice none 0 0] 92) = W at *
  cases ha : (hasL p.at_ n && hasL attrsL n)
  · have E := Hid.mk' (krF_code (kv_none (l := l) ha))
    rw [ha] at KH
    have KH := Hid.mk' KH
    clear ha
    generalize krF p n l = R at *
    go_enter Tryz.func56, Tryz.ntmps56
    go_wp2_with fail
    clear hW x0 x1 x2 x3
    refine KH.out.mono ?_
    rintro e w1 ⟨rfl, hb⟩
    have HB := Hid.mk' (HB.out.trans (hb.mono HB.out.size))
    have HM := Hid.mk' (HM.out.below hb)
    have HV := Hid.mk' (rowB HV.out hb)
    have HT := Hid.mk' (HT.out.below hb)
    have HX := Hid.mk' (rowB HX.out hb)
    have HR := Hid.mk' (rowB HR.out hb)
    obtain ⟨x0, x1, x2, x3⟩ := cellsP HX.out
    obtain ⟨y0, y1, y2⟩ := cellsQ2 HR.out
    obtain ⟨f0, f1⟩ := frzQ2 HR.out
    clear hb KH
    go_wp2
    refine bodyPost_ret (v := .agg #[.int .i64 4, .slice none 0 0]) (by simp [results, Tryz.results56, go_sem, *]) rfl ?_
    exact kqP_nil E.out ((HB.out.setCell (p := ⟨w.heap.size + 1, 0, none⟩) (by simp) _).setCell (p := ⟨w.heap.size + 1, 1, none⟩) (by simp) _)
  rw [ha] at KH
  have KH := Hid.mk' KH
  have HN : Hid (hasL attrsL n = true) := Hid.mk' (by rw [Bool.and_eq_true] at ha; exact ha.2)
  cases hw : isW n
  rotate_left
  · have E := Hid.mk' (krF_width (l := l) ha hw)
    have hwn : (n.toList == [119, 105, 100, 116, 104]) = true := hw
    clear hw ha
    generalize krF p n l = R at *
    go_enter Tryz.func56, Tryz.ntmps56
    go_wp2_with fail
    clear hW x0 x1 x2 x3
    refine KH.out.mono ?_
    rintro e w1 ⟨rfl, hb⟩
    have HB := Hid.mk' (HB.out.trans (hb.mono HB.out.size))
    have HM := Hid.mk' (HM.out.below hb)
    have HV := Hid.mk' (rowB HV.out hb)
    have HT := Hid.mk' (HT.out.below hb)
    have HX := Hid.mk' (rowB HX.out hb)
    have HR := Hid.mk' (rowB HR.out hb)
    obtain ⟨x0, x1, x2, x3⟩ := cellsP HX.out
    obtain ⟨y0, y1, y2⟩ := cellsQ2 HR.out
    obtain ⟨f0, f1⟩ := frzQ2 HR.out
    clear hb KH
    have KW := Hid.mk' (keptWidth_any (some ⟨g, 0, none⟩) c l w1 (.of_row HV.out) hl HT.out)
    generalize kwF (strS l) = R2 at *
    go_wp2_with fail
    refine KW.out.mono ?_
    rintro e w2 ⟨v, c', rfl, hat, hfa, hfr, hb⟩
    have HF := Hid.mk' hfr
    have HFA := Hid.mk' hfa
    have HY := Hid.mk' y2
    have HB := Hid.mk' (HB.out.trans (hb.mono HB.out.size))
    have HAT := Hid.mk' hat
    obtain ⟨z0, z1, z2⟩ := cellsQ2 (rowB HR.out hb)
    obtain ⟨g0, g1⟩ := frzQ2 (rowB HR.out hb)
    clear hb hat hfr hfa KW
    go_wp2
    refine bodyPost_ret (v := .agg #[.int .i64 R2.1, .slice v R2.2.length c']) (by simp [results, Tryz.results56, go_sem, *]) rfl ?_
    refine ⟨v, c', by rw [E.out], ?_, by rw [E.out]; exact HFA.out.setTwo, (fun b o e => by have := HF.out b o e; have := HY.out; omega), (HB.out.setCell (p := ⟨w.heap.size + 1, 0, none⟩) (by simp) _).setCell (p := ⟨w.heap.size + 1, 1, none⟩) (by simp) _⟩
    rw [E.out]
    exact HAT.out.setTwo (fun b o e _ => by have := HF.out b o e; have := HY.out; omega)
  have hwn : (n.toList == [119, 105, 100, 116, 104]) = false := hw
  have hT := name_of HN.out hw
  cases hc8 : clB l
  · have E := Hid.mk' (krF_code (kv_text ha hw hc8))
    clear ha hw hT
    generalize krF p n l = R at *
    go_enter Tryz.func56, Tryz.ntmps56
    go_wp2_with fail
    clear hW x0 x1 x2 x3
    refine KH.out.mono ?_
    rintro e w1 ⟨rfl, hb⟩
    have HB := Hid.mk' (HB.out.trans (hb.mono HB.out.size))
    have HM := Hid.mk' (HM.out.below hb)
    have HV := Hid.mk' (rowB HV.out hb)
    have HT := Hid.mk' (HT.out.below hb)
    have HX := Hid.mk' (rowB HX.out hb)
    have HR := Hid.mk' (rowB HR.out hb)
    obtain ⟨x0, x1, x2, x3⟩ := cellsP HX.out
    obtain ⟨y0, y1, y2⟩ := cellsQ2 HR.out
    obtain ⟨f0, f1⟩ := frzQ2 HR.out
    clear hb KH
    have KC := isClean_any (some ⟨g, 0, none⟩) c l w1 (.of_row HV.out) hl
    rw [hc8] at KC
    have KC := Hid.mk' KC
    go_wp2_with fail
    refine KC.out.mono ?_
    rintro e w2 ⟨rfl, hww⟩
    obtain rfl := hww.symm
    clear KC hc8
    go_wp2
    refine bodyPost_ret (v := .agg #[.int .i64 5, .slice none 0 0]) (by simp [results, Tryz.results56, go_sem, *]) rfl ?_
    exact kqP_nil E.out ((HB.out.setCell (p := ⟨w.heap.size + 1, 0, none⟩) (by simp) _).setCell (p := ⟨w.heap.size + 1, 1, none⟩) (by simp) _)
  cases hh : isHr n
  rotate_left
  · have hhn : (n.toList == [104, 114, 101, 102]) = true := hh
    have hLL : (isHr n || isSr n) = true := by rw [hh]; rfl
    clear hh
    have hTT : isT n = false := by rw [hT, hLL]; rfl
    cases hB : urlB p l
    · have E := Hid.mk' (krF_code (kv_state ha hw hc8 (by rw [hTT, hB]; rfl)))
      clear ha hw hT hLL hTT
      generalize krF p n l = R at *
      go_enter Tryz.func56, Tryz.ntmps56
      go_wp2_with fail
      clear hW x0 x1 x2 x3
      refine KH.out.mono ?_
      rintro e w1 ⟨rfl, hb⟩
      have HB := Hid.mk' (HB.out.trans (hb.mono HB.out.size))
      have HM := Hid.mk' (HM.out.below hb)
      have HV := Hid.mk' (rowB HV.out hb)
      have HT := Hid.mk' (HT.out.below hb)
      have HX := Hid.mk' (rowB HX.out hb)
      have HR := Hid.mk' (rowB HR.out hb)
      obtain ⟨x0, x1, x2, x3⟩ := cellsP HX.out
      obtain ⟨y0, y1, y2⟩ := cellsQ2 HR.out
      obtain ⟨f0, f1⟩ := frzQ2 HR.out
      clear hb KH
      have KC := isClean_any (some ⟨g, 0, none⟩) c l w1 (.of_row HV.out) hl
      rw [hc8] at KC
      have KC := Hid.mk' KC
      go_wp2_with fail
      refine KC.out.mono ?_
      rintro e w2 ⟨rfl, hww⟩
      obtain rfl := hww.symm
      have KL := mayLink_any p b1 b2 b3 g c lo l w1 HM.out HV.out hc hc8 HU.out
      rw [hB] at KL
      have KL := Hid.mk' KL
      clear hc8 hB
      go_wp2_with fail
      refine KL.out.mono ?_
      rintro e w3 ⟨rfl, hb⟩
      have HB := Hid.mk' (HB.out.trans (hb.mono HB.out.size))
      have HV := Hid.mk' (rowB HV.out hb)
      have HR := Hid.mk' (rowB HR.out hb)
      clear x0 x1 x2 x3 y0 y1 y2 f0 f1
      obtain ⟨y0, y1, y2⟩ := cellsQ2 HR.out
      obtain ⟨f0, f1⟩ := frzQ2 HR.out
      clear hb KL
      go_wp2
      refine bodyPost_ret (v := .agg #[.int .i64 7, .slice none 0 0]) (by simp [results, Tryz.results56, go_sem, *]) rfl ?_
      exact kqP_nil E.out ((HB.out.setCell (p := ⟨w.heap.size + 1, 0, none⟩) (by simp) _).setCell (p := ⟨w.heap.size + 1, 1, none⟩) (by simp) _)
    · have E := Hid.mk' (krF_same (kv_same ha hw hc8 (by rw [hTT, hB]; rfl)))
      clear ha hw hT hLL hTT
      generalize krF p n l = R at *
      go_enter Tryz.func56, Tryz.ntmps56
      go_wp2_with fail
      clear hW x0 x1 x2 x3
      refine KH.out.mono ?_
      rintro e w1 ⟨rfl, hb⟩
      have HB := Hid.mk' (HB.out.trans (hb.mono HB.out.size))
      have HM := Hid.mk' (HM.out.below hb)
      have HV := Hid.mk' (rowB HV.out hb)
      have HT := Hid.mk' (HT.out.below hb)
      have HX := Hid.mk' (rowB HX.out hb)
      have HR := Hid.mk' (rowB HR.out hb)
      obtain ⟨x0, x1, x2, x3⟩ := cellsP HX.out
      obtain ⟨y0, y1, y2⟩ := cellsQ2 HR.out
      obtain ⟨f0, f1⟩ := frzQ2 HR.out
      clear hb KH
      have KC := isClean_any (some ⟨g, 0, none⟩) c l w1 (.of_row HV.out) hl
      rw [hc8] at KC
      have KC := Hid.mk' KC
      go_wp2_with fail
      refine KC.out.mono ?_
      rintro e w2 ⟨rfl, hww⟩
      obtain rfl := hww.symm
      have KL := mayLink_any p b1 b2 b3 g c lo l w1 HM.out HV.out hc hc8 HU.out
      rw [hB] at KL
      have KL := Hid.mk' KL
      clear hc8 hB
      go_wp2_with fail
      refine KL.out.mono ?_
      rintro e w3 ⟨rfl, hb⟩
      have HB := Hid.mk' (HB.out.trans (hb.mono HB.out.size))
      have HV := Hid.mk' (rowB HV.out hb)
      have HR := Hid.mk' (rowB HR.out hb)
      clear x0 x1 x2 x3 y0 y1 y2 f0 f1
      obtain ⟨y0, y1, y2⟩ := cellsQ2 HR.out
      obtain ⟨f0, f1⟩ := frzQ2 HR.out
      clear hb KL
      have KY := Hid.mk' (copyBytes_any (some ⟨g, 0, none⟩) c l w3 (.of_row HV.out) hl)
      go_wp2_with fail
      refine KY.out.mono ?_
      rintro e w4 ⟨h, rfl, hge, hrow, hb⟩
      have HB := Hid.mk' (HB.out.trans (hb.mono HB.out.size))
      have HAT := Hid.mk' (show BAt w4 (some ⟨h, 0, none⟩) l from .of_row hrow)
      have HG := Hid.mk' hge
      have HFA : Hid (FrA w4 (some ⟨h, 0, none⟩) l.length) := Hid.mk' (.row hrow)
      have HY := Hid.mk' y2
      obtain ⟨z0, z1, z2⟩ := cellsQ2 (rowB HR.out hb)
      obtain ⟨g0, g1⟩ := frzQ2 (rowB HR.out hb)
      clear hb hrow hge KY
      go_wp2
      refine bodyPost_ret (v := .agg #[.int .i64 0, .slice (some ⟨h, 0, none⟩) l.length l.length]) (by simp [results, Tryz.results56, go_sem, *]) rfl ?_
      refine ⟨some ⟨h, 0, none⟩, l.length, by rw [E.out], ?_, by rw [E.out]; exact HFA.out.setTwo, (fun b o e => by cases e; have := HG.out; have := HY.out; omega), (HB.out.setCell (p := ⟨w.heap.size + 1, 0, none⟩) (by simp) _).setCell (p := ⟨w.heap.size + 1, 1, none⟩) (by simp) _⟩
      rw [E.out]
      exact HAT.out.setTwo (fun b o e _ => by cases e; have := HG.out; have := HY.out; omega)
  have hhn : (n.toList == [104, 114, 101, 102]) = false := hh
  cases hs : isSr n
  rotate_left
  · have hsn : (n.toList == [115, 114, 99]) = true := hs
    have hLL : (isHr n || isSr n) = true := by rw [hh, hs]; rfl
    clear hh hs
    have hTT : isT n = false := by rw [hT, hLL]; rfl
    cases hB : urlB p l
    · have E := Hid.mk' (krF_code (kv_state ha hw hc8 (by rw [hTT, hB]; rfl)))
      clear ha hw hT hLL hTT
      generalize krF p n l = R at *
      go_enter Tryz.func56, Tryz.ntmps56
      go_wp2_with fail
      clear hW x0 x1 x2 x3
      refine KH.out.mono ?_
      rintro e w1 ⟨rfl, hb⟩
      have HB := Hid.mk' (HB.out.trans (hb.mono HB.out.size))
      have HM := Hid.mk' (HM.out.below hb)
      have HV := Hid.mk' (rowB HV.out hb)
      have HT := Hid.mk' (HT.out.below hb)
      have HX := Hid.mk' (rowB HX.out hb)
      have HR := Hid.mk' (rowB HR.out hb)
      obtain ⟨x0, x1, x2, x3⟩ := cellsP HX.out
      obtain ⟨y0, y1, y2⟩ := cellsQ2 HR.out
      obtain ⟨f0, f1⟩ := frzQ2 HR.out
      clear hb KH
      have KC := isClean_any (some ⟨g, 0, none⟩) c l w1 (.of_row HV.out) hl
      rw [hc8] at KC
      have KC := Hid.mk' KC
      go_wp2_with fail
      refine KC.out.mono ?_
      rintro e w2 ⟨rfl, hww⟩
      obtain rfl := hww.symm
      have KL := mayLink_any p b1 b2 b3 g c lo l w1 HM.out HV.out hc hc8 HU.out
      rw [hB] at KL
      have KL := Hid.mk' KL
      clear hc8 hB
      go_wp2_with fail
      refine KL.out.mono ?_
      rintro e w3 ⟨rfl, hb⟩
      have HB := Hid.mk' (HB.out.trans (hb.mono HB.out.size))
      have HV := Hid.mk' (rowB HV.out hb)
      have HR := Hid.mk' (rowB HR.out hb)
      clear x0 x1 x2 x3 y0 y1 y2 f0 f1
      obtain ⟨y0, y1, y2⟩ := cellsQ2 HR.out
      obtain ⟨f0, f1⟩ := frzQ2 HR.out
      clear hb KL
      go_wp2
      refine bodyPost_ret (v := .agg #[.int .i64 7, .slice none 0 0]) (by simp [results, Tryz.results56, go_sem, *]) rfl ?_
      exact kqP_nil E.out ((HB.out.setCell (p := ⟨w.heap.size + 1, 0, none⟩) (by simp) _).setCell (p := ⟨w.heap.size + 1, 1, none⟩) (by simp) _)
    · have E := Hid.mk' (krF_same (kv_same ha hw hc8 (by rw [hTT, hB]; rfl)))
      clear ha hw hT hLL hTT
      generalize krF p n l = R at *
      go_enter Tryz.func56, Tryz.ntmps56
      go_wp2_with fail
      clear hW x0 x1 x2 x3
      refine KH.out.mono ?_
      rintro e w1 ⟨rfl, hb⟩
      have HB := Hid.mk' (HB.out.trans (hb.mono HB.out.size))
      have HM := Hid.mk' (HM.out.below hb)
      have HV := Hid.mk' (rowB HV.out hb)
      have HT := Hid.mk' (HT.out.below hb)
      have HX := Hid.mk' (rowB HX.out hb)
      have HR := Hid.mk' (rowB HR.out hb)
      obtain ⟨x0, x1, x2, x3⟩ := cellsP HX.out
      obtain ⟨y0, y1, y2⟩ := cellsQ2 HR.out
      obtain ⟨f0, f1⟩ := frzQ2 HR.out
      clear hb KH
      have KC := isClean_any (some ⟨g, 0, none⟩) c l w1 (.of_row HV.out) hl
      rw [hc8] at KC
      have KC := Hid.mk' KC
      go_wp2_with fail
      refine KC.out.mono ?_
      rintro e w2 ⟨rfl, hww⟩
      obtain rfl := hww.symm
      have KL := mayLink_any p b1 b2 b3 g c lo l w1 HM.out HV.out hc hc8 HU.out
      rw [hB] at KL
      have KL := Hid.mk' KL
      clear hc8 hB
      go_wp2_with fail
      refine KL.out.mono ?_
      rintro e w3 ⟨rfl, hb⟩
      have HB := Hid.mk' (HB.out.trans (hb.mono HB.out.size))
      have HV := Hid.mk' (rowB HV.out hb)
      have HR := Hid.mk' (rowB HR.out hb)
      clear x0 x1 x2 x3 y0 y1 y2 f0 f1
      obtain ⟨y0, y1, y2⟩ := cellsQ2 HR.out
      obtain ⟨f0, f1⟩ := frzQ2 HR.out
      clear hb KL
      have KY := Hid.mk' (copyBytes_any (some ⟨g, 0, none⟩) c l w3 (.of_row HV.out) hl)
      go_wp2_with fail
      refine KY.out.mono ?_
      rintro e w4 ⟨h, rfl, hge, hrow, hb⟩
      have HB := Hid.mk' (HB.out.trans (hb.mono HB.out.size))
      have HAT := Hid.mk' (show BAt w4 (some ⟨h, 0, none⟩) l from .of_row hrow)
      have HG := Hid.mk' hge
      have HFA : Hid (FrA w4 (some ⟨h, 0, none⟩) l.length) := Hid.mk' (.row hrow)
      have HY := Hid.mk' y2
      obtain ⟨z0, z1, z2⟩ := cellsQ2 (rowB HR.out hb)
      obtain ⟨g0, g1⟩ := frzQ2 (rowB HR.out hb)
      clear hb hrow hge KY
      go_wp2
      refine bodyPost_ret (v := .agg #[.int .i64 0, .slice (some ⟨h, 0, none⟩) l.length l.length]) (by simp [results, Tryz.results56, go_sem, *]) rfl ?_
      refine ⟨some ⟨h, 0, none⟩, l.length, by rw [E.out], ?_, by rw [E.out]; exact HFA.out.setTwo, (fun b o e => by cases e; have := HG.out; have := HY.out; omega), (HB.out.setCell (p := ⟨w.heap.size + 1, 0, none⟩) (by simp) _).setCell (p := ⟨w.heap.size + 1, 1, none⟩) (by simp) _⟩
      rw [E.out]
      exact HAT.out.setTwo (fun b o e _ => by cases e; have := HG.out; have := HY.out; omega)
  · have hsn : (n.toList == [115, 114, 99]) = false := hs
    have hLL : (isHr n || isSr n) = false := by rw [hh, hs]; rfl
    have hTT : isT n = true := by rw [hT, hLL]; rfl
    have E := Hid.mk' (krF_same (kv_same ha hw hc8 (by rw [hTT]; rfl)))
    clear ha hw hT hLL hTT hh hs
    generalize krF p n l = R at *
    go_enter Tryz.func56, Tryz.ntmps56
    go_wp2_with fail
    clear hW x0 x1 x2 x3
    refine KH.out.mono ?_
    rintro e w1 ⟨rfl, hb⟩
    have HB := Hid.mk' (HB.out.trans (hb.mono HB.out.size))
    have HM := Hid.mk' (HM.out.below hb)
    have HV := Hid.mk' (rowB HV.out hb)
    have HT := Hid.mk' (HT.out.below hb)
    have HX := Hid.mk' (rowB HX.out hb)
    have HR := Hid.mk' (rowB HR.out hb)
    obtain ⟨x0, x1, x2, x3⟩ := cellsP HX.out
    obtain ⟨y0, y1, y2⟩ := cellsQ2 HR.out
    obtain ⟨f0, f1⟩ := frzQ2 HR.out
    clear hb KH
    have KC := isClean_any (some ⟨g, 0, none⟩) c l w1 (.of_row HV.out) hl
    rw [hc8] at KC
    have KC := Hid.mk' KC
    go_wp2_with fail
    refine KC.out.mono ?_
    rintro e w2 ⟨rfl, hww⟩
    obtain rfl := hww.symm
    clear hc8
    have KY := Hid.mk' (copyBytes_any (some ⟨g, 0, none⟩) c l w1 (.of_row HV.out) hl)
    go_wp2_with fail
    refine KY.out.mono ?_
    rintro e w4 ⟨h, rfl, hge, hrow, hb⟩
    have HB := Hid.mk' (HB.out.trans (hb.mono HB.out.size))
    have HAT := Hid.mk' (show BAt w4 (some ⟨h, 0, none⟩) l from .of_row hrow)
    have HG := Hid.mk' hge
    have HFA : Hid (FrA w4 (some ⟨h, 0, none⟩) l.length) := Hid.mk' (.row hrow)
    have HY := Hid.mk' y2
    obtain ⟨z0, z1, z2⟩ := cellsQ2 (rowB HR.out hb)
    obtain ⟨g0, g1⟩ := frzQ2 (rowB HR.out hb)
    clear hb hrow hge KY
    go_wp2
    refine bodyPost_ret (v := .agg #[.int .i64 0, .slice (some ⟨h, 0, none⟩) l.length l.length]) (by simp [results, Tryz.results56, go_sem, *]) rfl ?_
    refine ⟨some ⟨h, 0, none⟩, l.length, by rw [E.out], ?_, by rw [E.out]; exact HFA.out.setTwo, (fun b o e => by cases e; have := HG.out; have := HY.out; omega), (HB.out.setCell (p := ⟨w.heap.size + 1, 0, none⟩) (by simp) _).setCell (p := ⟨w.heap.size + 1, 1, none⟩) (by simp) _⟩
    rw [E.out]
    exact HAT.out.setTwo (fun b o e _ => by cases e; have := HG.out; have := HY.out; omega)

end Go.Proofs.YthhdfbgjdfoalaaGreatDoor

/- KeptValue and MayValue: the program's side, whole. -/
namespace Go.Proofs.YthhdfbgjdfoalaaGreatDoor
open Go.RowKit Go.Maps
set_option linter.unusedVariables false
set_option linter.unusedSimpArgs false

theorem bytesEqualS_any (a b : Option Addr) (c d : Nat) (l m : List Int) (w : World) (h1 : BAt w a l) (h2 : BAt w b m) :
    Calls Tryz.prog 96 #[.slice a l.length c, .slice b m.length d] w fun e w' => e = .returned (.bool ((strS l).toList == (strS m).toList)) ∧ w' = w := by
  have c1 := conv_bytesS c h1
  have c2 := conv_bytesS d h2
  clear h1 h2
  go_enter Tryz.func96, Tryz.ntmps96
  go_wp2
  go_ret
  exact ⟨rfl, rfl⟩

end Go.Proofs.YthhdfbgjdfoalaaGreatDoor

/- The law on MayValue. -/
namespace Go.Proofs.YthhdfbgjdfoalaaGreatDoor
open Go.RowKit Go.Maps
set_option linter.unusedVariables false
set_option linter.unusedSimpArgs false

end Go.Proofs.YthhdfbgjdfoalaaGreatDoor

/- Walks: the text of a table, the model's side. -/
namespace Go.Proofs.YthhdfbgjdfoalaaGreatDoor
open Go.RowKit
set_option linter.unusedVariables false

theorem kept2 (w : World) (g o1 o2 : Nat) (v1 v2 : Value) : KeptIn g (g + 1) w ((w.setCell ⟨g, o1, none⟩ v1).setCell ⟨g, o2, none⟩ v2) :=
  ((KeptIn.refl g (g + 1) w).setCell (p := ⟨g, o1, none⟩) (Nat.le_refl _) (Nat.lt_succ_self _) _).setCell (p := ⟨g, o2, none⟩) (Nat.le_refl _) (Nat.lt_succ_self _) _

/-- The store of a piece, as a slice in memory. -/
theorem store_at {w : World} {a1 a2 : Option Addr} {c1 c2 : Nat} {t : TB} (p : PC) (h1 : BAt w a1 t.base) (h2 : BAt w a2 t.more) (h0 : 0 < (store t p).length) (k1 : t.base.length ≤ c1) (k2 : t.more.length ≤ c2) :
    ∃ b o c, (if p.ad then Value.slice a2 t.more.length c2 else Value.slice a1 t.base.length c1) = .slice (some ⟨b, o, none⟩) (store t p).length c ∧ (store t p).length ≤ c ∧ b < w.heap.size ∧ ∀ k, k < (store t p).length → w.cell? ⟨b, o + k, none⟩ = some (bv (store t p) k) := by
  unfold store at *
  cases hp : p.ad <;> rw [hp] at h0
  · rcases h1 with h1 | ⟨b, o, rfl, hb, hc⟩
    · simp [h1] at h0
    · exact ⟨b, o, c1, rfl, k1, hb, hc⟩
  · rcases h2 with h2 | ⟨b, o, rfl, hb, hc⟩
    · simp [h2] at h0
    · exact ⟨b, o, c2, rfl, k2, hb, hc⟩

/-- The bytes that are told beside the code. -/
def textVal (t : TB) : List Int := if fault t = 0 then text t else []

end Go.Proofs.YthhdfbgjdfoalaaGreatDoor

/- Walks: the text of a table, the program's side. -/
namespace Go.Proofs.YthhdfbgjdfoalaaGreatDoor
open Go.RowKit
set_option linter.unusedVariables false

end Go.Proofs.YthhdfbgjdfoalaaGreatDoor

/- Marks in bytes that may be written, in a policy's lists. -/
namespace Go.Proofs.YthhdfbgjdfoalaaGreatDoor
open Go.RowKit Go.Maps
set_option linter.unusedVariables false
set_option linter.unusedSimpArgs false

/-- Bytes at one's own place, with marks up to i. -/
def MkF (w : World) (g o n k i : Nat) (l : List Int) : Prop := ∀ j, j < n → w.cell? ⟨g, o + j, none⟩ = some (if j < i then bv (mb k n) j else bv l j)

set_option maxHeartbeats 800000 in
theorem markByteS_fr (g o c k : Nat) (l : List Int) (w : World) (hg : g < w.heap.size) (hc : ∀ j, j < l.length → w.cell? ⟨g, o + j, none⟩ = some (bv l j)) (hf : FrA w (some ⟨g, o, none⟩) l.length) (hk : (k : Int) + l.length ≤ 100000000) :
    Calls Tryz.prog 35 #[.slice (some ⟨g, o, none⟩) l.length c, .int .i64 k] w fun e w' => e = .returned (.int .i64 ((k : Int) + l.length)) ∧ BAt w' (some ⟨g, o, none⟩) (mb k l.length) ∧ KeptIn g (g + 1) w w' := by
  have hf' : ∀ j, j < l.length → w.frozen? ⟨g, o + j, none⟩ = false := hf g o rfl
  go_enter Tryz.func35, Tryz.ntmps35
  go_wp2
  go_loopw [1, 5] (fun s x wr => ∃ i : Nat, i ≤ l.length ∧ x = .int .i64 i ∧ s = .int .i64 ((k : Int) + i) ∧ MkF wr g o l.length k i l ∧ (∀ j, j < l.length → wr.frozen? ⟨g, o + j, none⟩ = false) ∧ KeptIn g (g + 1) w wr) (fun _ x _ => l.length - (intOf x).toNat)
  case atStart => exact ⟨0, Nat.zero_le _, rfl, by simp, fun j hj => by rw [if_neg (by omega)]; exact hc j hj, hf', KeptIn.refl _ _ _⟩
  case round =>
    obtain ⟨i, hi, rfl, rfl, hrow, hfr, hkp⟩ := hrel
    by_cases hlt : i < l.length
    · have f0 := hfr i hlt
      obtain ⟨v0, g0⟩ : ∃ v, wr.cell? ⟨g, o + i, none⟩ = some v := ⟨_, hrow i hlt⟩
      have R1 := Hid.mk' hrow
      have R2 := Hid.mk' hkp
      have R3 := Hid.mk' hfr
      clear hrow hkp hfr hf hf' hc
      go_wp2
      go_roundw
      case rel =>
        refine ⟨i + 1, by omega, by go_num, by go_num, fun j hj => ?_, fun j hj => by rw [World.frozen?_setCell]; exact R3.out j hj, R2.out.setCell (p := ⟨g, o + i, none⟩) (Nat.le_refl _) (Nat.lt_succ_self _) _⟩
        by_cases e : j = i
        · subst e
          rw [if_pos (by omega), bv_mb _ _ _ hj]
          exact World.cell?_setCell_same _ _ _ g0
        · rw [World.cell?_setCell_other _ _ _ _ (fun h => e (by have := congrArg Addr.off h; dsimp only at this; omega)), R1.out j hj]
          by_cases hji : j < i
          · rw [if_pos hji, if_pos (by omega)]
          · rw [if_neg hji, if_neg (by omega)]
      case measure => simp [intOf]; omega
    · go_wp2
      go_ret
      have e : i = l.length := by omega
      subst e
      refine ⟨rfl, .inr ⟨g, o, rfl, Nat.lt_of_lt_of_le hg hkp.size, fun j hj => ?_⟩, hkp⟩
      rw [mb_len] at hj
      rw [hrow j hj, if_pos hj]

set_option maxHeartbeats 400000 in
theorem markByteS_zero (v : Option Addr) (c k : Nat) (w : World) (hk : (k : Int) ≤ 100000000) :
    Calls Tryz.prog 35 #[.slice v 0 c, .int .i64 k] w fun e w' => e = .returned (.int .i64 (k : Int)) ∧ w' = w := by
  go_enter Tryz.func35, Tryz.ntmps35
  go_wp2
  go_loop [1, 5] (fun s x => x = .int .i64 0 ∧ s = .int .i64 (k : Int)) (fun _ _ => 0)
  case atStart => exact ⟨rfl, rfl⟩
  case round =>
    obtain ⟨rfl, rfl⟩ := hrel
    go_wp2
    go_ret
    exact ⟨rfl, rfl⟩

/-- Marks in an answer's bytes. -/
theorem markByteS_at (v : Option Addr) (c lo hi : Nat) (l : List Int) (w : World) (h : BAt w v l) (hf : FrA w v l.length) (hv : ∀ b o, v = some ⟨b, o, none⟩ → l ≠ [] → lo ≤ b ∧ b < hi) (hl : (l.length : Int) ≤ 1048576) :
    Calls Tryz.prog 35 #[.slice v l.length c, .int .i64 1] w fun e w' => e = .returned (.int .i64 (1 + (l.length : Int))) ∧ BAt w' v (mb 1 l.length) ∧ KeptIn lo hi w w' := by
  by_cases h0 : l = []
  · subst h0
    refine (markByteS_zero v c 1 w (by omega)).mono ?_
    rintro e w' ⟨rfl, rfl⟩
    exact ⟨rfl, .inl rfl, KeptIn.refl _ _ _⟩
  · rcases h with h | ⟨b, o, rfl, hb, hc⟩
    · exact absurd h h0
    · refine (markByteS_fr b o c 1 l w hb hc hf (by omega)).mono ?_
      rintro e w' ⟨rfl, h1, h2⟩
      have := hv b o rfl h0
      exact ⟨rfl, h1, h2.mono this.1 (by omega)⟩

set_option maxHeartbeats 1600000 in
theorem markPolicy_x (p : PO) (lo hi g1 g2 g3 : Nat) (w : World) (h : PX lo g1 g2 g3 p w) (hh : g3 < hi) (hl : (psz p : Int) ≤ 1048576) :
    Calls Tryz.prog 14 #[.agg #[.slice (some ⟨g1, 0, none⟩) p.tg.length p.tg.length, .slice (some ⟨g2, 0, none⟩) p.at_.length p.at_.length, .slice (some ⟨g3, 0, none⟩) p.sc.length p.sc.length], .int .i64 1] w fun e w' => e = .returned (.int .i64 ((1 + p.tg.length + p.at_.length + p.sc.length : Nat) : Int)) ∧ KeptIn lo hi w w' := by
  unfold psz at hl
  obtain ⟨l1, l2, l3, r1, r2, r3'⟩ := h
  have s3 := r3'.lt
  have B0 := below_new w (.cells #[.slice (some ⟨g1, 0, none⟩) p.tg.length p.tg.length, .slice (some ⟨g2, 0, none⟩) p.at_.length p.at_.length, .slice (some ⟨g3, 0, none⟩) p.sc.length p.sc.length] 32)
  have HX := Hid.mk' (row3 w 32 (.slice (some ⟨g1, 0, none⟩) p.tg.length p.tg.length) (.slice (some ⟨g2, 0, none⟩) p.at_.length p.at_.length) (.slice (some ⟨g3, 0, none⟩) p.sc.length p.sc.length))
  have K1 := Hid.mk' (markStringS_is g1 p.tg.length 1 p.tg (sv p.tg) p.tg.length _ (rowB r1 B0) (Nat.le_refl _) (by omega) (by omega))
  have R2 := Hid.mk' (rowB r2 B0)
  have R3 := Hid.mk' (rowB r3' B0)
  have HK := Hid.mk' (KeptIn.of_below (lo := lo) (hi := hi) B0)
  have L := Hid.mk' (show lo ≤ g1 ∧ g1 < g2 ∧ g2 < g3 ∧ g3 < hi ∧ g3 < w.heap.size from ⟨l1, l2, l3, hh, s3⟩)
  have HL := Hid.mk' (show (p.tg.length : Int) + p.at_.length + p.sc.length ≤ 1048576 by omega)
  clear r1 r2 r3' B0 l1 l2 l3 hh s3 hl
  generalize hW : w.alloc (.cells #[.slice (some ⟨g1, 0, none⟩) p.tg.length p.tg.length, .slice (some ⟨g2, 0, none⟩) p.at_.length p.at_.length, .slice (some ⟨g3, 0, none⟩) p.sc.length p.sc.length] 32) = W at *
  obtain ⟨x0, x1, x2, x3⟩ := cellsP HX.out
  go_enter Tryz.func14, Tryz.ntmps14
  go_wp2_with fail
  clear hW x0 x1 x2 x3
  refine K1.out.mono ?_
  rintro e w1 ⟨rfl, _, hk⟩
  have R2 := Hid.mk' (rowK R2.out hk (.inr (by have := L.out; omega)))
  have R3 := Hid.mk' (rowK R3.out hk (.inr (by have := L.out; omega)))
  have HX := Hid.mk' (rowK HX.out hk (.inr (by have := L.out; omega)))
  have HK := Hid.mk' (HK.out.trans (hk.mono (by have := L.out; omega) (by have := L.out; omega)))
  have K2 := Hid.mk' (markStringS_is g2 p.at_.length (1 + p.tg.length) p.at_ (sv p.at_) p.at_.length _ R2.out (Nat.le_refl _) (by omega) (by have := HL.out; omega))
  clear hk K1 R2
  obtain ⟨x0, x1, x2, x3⟩ := cellsP HX.out
  go_wp2_with fail
  clear x0 x1 x2 x3
  refine K2.out.mono ?_
  rintro e w2 ⟨rfl, _, hk⟩
  have R3 := Hid.mk' (rowK R3.out hk (.inr (by have := L.out; omega)))
  have HX := Hid.mk' (rowK HX.out hk (.inr (by have := L.out; omega)))
  have HK := Hid.mk' (HK.out.trans (hk.mono (by have := L.out; omega) (by have := L.out; omega)))
  have K3 := Hid.mk' (markStringS_is g3 p.sc.length (1 + p.tg.length + p.at_.length) p.sc (sv p.sc) p.sc.length _ R3.out (Nat.le_refl _) (by omega) (by have := HL.out; omega))
  clear hk K2 R3
  obtain ⟨x0, x1, x2, x3⟩ := cellsP HX.out
  go_wp2_with fail
  clear x0 x1 x2 x3
  refine K3.out.mono ?_
  rintro e w3 ⟨rfl, _, hk⟩
  have HK := Hid.mk' (HK.out.trans (hk.mono (by have := L.out; omega) (by have := L.out; omega)))
  clear hk K3
  go_wp2
  go_ret
  exact ⟨rfl, HK.out⟩

theorem BAt.keptIn {w w' : World} {v : Option Addr} {l : List Int} {lo hi : Nat} (h : BAt w v l) (hk : KeptIn lo hi w w') (hv : ∀ b o, v = some ⟨b, o, none⟩ → l ≠ [] → b < lo ∨ hi ≤ b) : BAt w' v l := by
  rcases h with h | ⟨b, o, e, hb, hc⟩
  · exact .inl h
  · by_cases h0 : l = []
    · exact .inl h0
    · refine .inr ⟨b, o, e, Nat.lt_of_lt_of_le hb hk.size, fun k hk' => ?_⟩
      have := hc k hk'
      unfold World.cell? at this ⊢
      rw [hk.block b hb (hv b o e h0)]
      exact this

theorem FrA.keptIn {w w' : World} {v : Option Addr} {n lo hi : Nat} (h : FrA w v n) (hk : KeptIn lo hi w w') (hv : ∀ b o, v = some ⟨b, o, none⟩ → 0 < n → (b < lo ∨ hi ≤ b) ∧ b < w.heap.size) : FrA w' v n := fun b o e k hkn => by
  have hh := hv b o e (by omega)
  have := h b o e k hkn
  unfold World.frozen? at this ⊢
  rw [hk.block b hh.2 hh.1]
  exact this

end Go.Proofs.YthhdfbgjdfoalaaGreatDoor

/- Attributes of one's own whose Values lie in rows of any kind; what is kept of attributes. -/
namespace Go.Proofs.YthhdfbgjdfoalaaGreatDoor
open Go.RowKit
set_option linter.unusedVariables false
set_option linter.unusedSimpArgs false

theorem own_of {w w' : World} {base base' : Nat} {e : TypeId} {size : Nat} {v : Value} {n : Nat} {xs : List Value} (h : w.ownsRow base e size v n xs) (hb : base' ≤ base) (hk : ∀ k, v.ownBlock = some k → base ≤ k → w'.heap[k]? = w.heap[k]?) : w'.ownsRow base' e size v n xs := by
  refine ⟨h.1, ?_⟩
  rcases h.2 with h0 | ⟨g, cap, cur, rfl, hg, hh, r⟩
  · exact .inl h0
  · exact .inr ⟨g, cap, cur, rfl, Nat.le_trans hb hg, by rw [hk g rfl hg]; exact hh, r⟩

/-- The cells of attributes: two each. -/
def acs : List AT → List Value → List Value
  | a :: l, u :: us => .string a.nm :: u :: acs l us
  | _, _ => []
theorem acs_len : ∀ (l : List AT) (us : List Value), us.length = l.length → (acs l us).length = l.length * 2
  | [], us, h => by cases us <;> rfl
  | a :: l, [], h => by simp at h
  | a :: l, u :: us, h => by
    simp only [acs, List.length_cons]
    rw [acs_len l us (by simpa using h)]; omega
theorem acs_snoc : ∀ (l : List AT) (us : List Value) (a : AT) (u : Value), us.length = l.length → acs (l ++ [a]) (us ++ [u]) = acs l us ++ [.string a.nm, u]
  | [], [], a, u, _ => rfl
  | [], u :: us, _, _, h => by simp at h
  | b :: l, [], _, _, h => by simp at h
  | b :: l, v :: us, a, u, h => by
    simp only [List.cons_append, acs]
    rw [acs_snoc l us a u (by simpa using h)]
theorem acs_get : ∀ (l : List AT) (us : List Value) (k : Nat), us.length = l.length → k < l.length → (acs l us)[k * 2]? = some (.string (atK l k).nm) ∧ (acs l us)[k * 2 + 1]? = some (us.getD k undef)
  | [], us, k, h, hk => absurd hk (Nat.not_lt_zero _)
  | a :: l, [], k, h, hk => by simp at h
  | a :: l, u :: us, 0, h, hk => by simp [acs, atK]
  | a :: l, u :: us, k + 1, h, hk => by
    have := acs_get l us k (by simpa using h) (by simpa using hk)
    rw [show (k + 1) * 2 = k * 2 + 1 + 1 from by omega]
    simpa [acs, atK] using this

theorem one_attr (w : World) (t : TypeId) (x y : Value) (g : Nat) (hg : w.heap.size = g) : ∀ j u, ([x, y] : List Value)[j]? = some u → (w.alloc (.cells #[x, y] t)).cell? ((⟨g, 0, none⟩ : Addr).add j) = some u := by
  intro j u h
  subst hg
  match j, h with
  | 0, h => cases h; simp [Addr.add]
  | 1, h => cases h; simp [Addr.add]
  | j + 2, h => simp at h

set_option maxHeartbeats 1600000 in
theorem placeOf_any (a : Option Addr) (c : Nat) (l : List AT) (s : ByteArray) (w : World) (ha : AAt w a l) (hl : (l.length : Int) ≤ 1048576) :
    Calls Tryz.prog 85 #[.slice a l.length c, .string s] w fun e w' => e = .returned (.int .i64 (posK l s)) ∧ Below w.heap.size w w' := by
  have HA := Hid.mk' ha
  clear ha
  go_enter Tryz.func85, Tryz.ntmps85
  go_wp2
  go_loopw [9] (fun i wr => ∃ k : Nat, k ≤ l.length ∧ i = .int .i64 k ∧ (∀ j, j < k → ((atK l j).nm.toList == s.toList) = false) ∧ Below w.heap.size w wr) (fun i _ => l.length - (intOf i).toNat)
  case atStart => exact ⟨0, Nat.zero_le _, rfl, fun j h => absurd h (Nat.not_lt_zero _), Below.refl _ _⟩
  case round =>
    obtain ⟨k, hk, rfl, hn, hbl⟩ := hrel
    have HN := Hid.mk' hn
    have HB := Hid.mk' hbl
    by_cases hlt : k < l.length
    · have ci : (k : Int) < (l.length : Int) := by omega
      rcases HA.out.below hbl with ha | ⟨b, o, rfl, hbs, hc⟩
      · exact absurd hlt (by rw [ha]; exact Nat.not_lt_zero _)
      obtain ⟨h1, p, d, h2, _⟩ := hc k hlt
      clear hc hn hbl
      cases e : ((atK l k).nm.toList == s.toList) with
      | true =>
        go_wp2
        go_ret
        refine ⟨?_, HB.out.alloc HB.out.size _⟩
        unfold posK
        rw [posFrom_found l s 0 k hlt HN.out e, Nat.zero_add]
        rfl
      | false =>
        go_wp2
        go_roundw
        case rel => exact ⟨k + 1, by omega, by go_num, fun j hj => by
          by_cases h : j = k
          · subst h; exact e
          · exact HN.out j (by omega), HB.out.alloc HB.out.size _⟩
        case measure => simp [intOf]; omega
    · have ci : ¬ (k : Int) < (l.length : Int) := by omega
      have e : k = l.length := by omega
      subst e
      go_wp2
      go_ret
      refine ⟨?_, HB.out⟩
      unfold posK
      rw [posFrom_none l s 0 HN.out]
      rfl

/-- The block of bytes, where there are some. -/
def uB (v : Value) (n : Nat) : Option Nat := if n = 0 then none else v.ownBlock
theorem uB_pos {v : Value} {n k : Nat} (h : uB v n = some k) : 0 < n ∧ v.ownBlock = some k := by
  unfold uB at h
  by_cases h0 : n = 0
  · rw [if_pos h0] at h; cases h
  · rw [if_neg h0] at h; exact ⟨by omega, h⟩

/-- Bytes that lie somewhere, and that may be written, if fr. -/
def OF (fr : Bool) (w : World) (v : Value) (l : List Int) : Prop := ∃ a c, v = .slice a l.length c ∧ BAt w a l ∧ (fr = true → FrA w a l.length)

theorem OF.blk {fr : Bool} {w : World} {v : Value} {l : List Int} (h : OF fr w v l) {k : Nat} (e : uB v l.length = some k) : k < w.heap.size := by
  obtain ⟨a, c, rfl, hb, _⟩ := h
  obtain ⟨h0, e⟩ := uB_pos e
  rcases hb with rfl | ⟨b, o, rfl, hlt, _⟩
  · simp at h0
  · simp [Value.ownBlock] at e; omega

theorem OF.keep {fr : Bool} {w w' : World} {v : Value} {l : List Int} (h : OF fr w v l) (hs : w.heap.size ≤ w'.heap.size) (hk : ∀ k, uB v l.length = some k → k < w.heap.size → w'.heap[k]? = w.heap[k]?) : OF fr w' v l := by
  obtain ⟨a, c, rfl, hb, hf⟩ := h
  by_cases h0 : l = []
  · subst h0
    exact ⟨a, c, rfl, .inl rfl, fun _ b o e k hk => absurd hk (Nat.not_lt_zero _)⟩
  · have hp : 0 < l.length := List.length_pos_iff.2 h0
    rcases hb with hb | ⟨b, o, rfl, hlt, hc⟩
    · exact absurd hb h0
    · have hh := hk b (by unfold uB; rw [if_neg (by omega)]; rfl) hlt
      refine ⟨_, c, rfl, .inr ⟨b, o, rfl, Nat.lt_of_lt_of_le hlt hs, fun k hk' => ?_⟩, fun e b' o' e' k hk' => ?_⟩
      · have := hc k hk'
        unfold World.cell? at this ⊢
        rw [hh]; exact this
      · cases e'
        have := hf e b o rfl k hk'
        unfold World.frozen? at this ⊢
        rw [hh]; exact this

theorem OF.below {fr : Bool} {w w' : World} {v : Value} {l : List Int} (h : OF fr w v l) (hb : Below w.heap.size w w') : OF fr w' v l := h.keep hb.size (fun k _ hl => hb.block k hl)

/-- Attributes of one's own; no two rows are one. -/
structure AF (fr : Bool) (lo : Nat) (w : World) (v : Value) (l : List AT) (us : List Value) : Prop where
  len : us.length = l.length
  row : w.ownsRow lo 58 2 v l.length (acs l us)
  val : ∀ j, j < l.length → OF fr w (us.getD j undef) (atK l j).vl
  vlo : ∀ j, j < l.length → ∀ k, uB (us.getD j undef) (atK l j).vl.length = some k → lo ≤ k
  ap : ∀ i j, i < j → j < l.length → ∀ k, uB (us.getD i undef) (atK l i).vl.length = some k → uB (us.getD j undef) (atK l j).vl.length = some k → False
  av : ∀ j, j < l.length → ∀ k, v.ownBlock = some k → uB (us.getD j undef) (atK l j).vl.length = some k → False

theorem AF.nil (fr : Bool) (lo : Nat) (w : World) : AF fr lo w (.slice none 0 0) [] [] :=
  ⟨rfl, ⟨rfl, .inl ⟨rfl, rfl⟩⟩, fun j h => absurd h (Nat.not_lt_zero _), fun j h => absurd h (Nat.not_lt_zero _), fun i j _ h => absurd h (Nat.not_lt_zero _), fun j h => absurd h (Nat.not_lt_zero _)⟩

theorem AF.keep {fr : Bool} {lo lo' : Nat} {w w' : World} {v : Value} {l : List AT} {us : List Value} (h : AF fr lo w v l us) (hs : w.heap.size ≤ w'.heap.size) (hlo : lo' ≤ lo) (hk : ∀ k, lo ≤ k → k < w.heap.size → w'.heap[k]? = w.heap[k]?) : AF fr lo' w' v l us :=
  ⟨h.len, own_of h.row hlo (fun k e hl => hk k hl (h.row.lt k e).2), fun j hj => (h.val j hj).keep hs (fun k e hl => hk k (h.vlo j hj k e) hl), fun j hj k e => Nat.le_trans hlo (h.vlo j hj k e), h.ap, h.av⟩
theorem AF.below {fr : Bool} {lo : Nat} {w w' : World} {v : Value} {l : List AT} {us : List Value} (h : AF fr lo w v l us) (hb : Below w.heap.size w w') : AF fr lo w' v l us := h.keep hb.size (Nat.le_refl _) (fun k _ hl => hb.block k hl)

theorem AF.at {fr : Bool} {lo : Nat} {w : World} {v : Value} {l : List AT} {us : List Value} (h : AF fr lo w v l us) : ∃ a c, v = .slice a l.length c ∧ AAt w a l := by
  rcases h.row.2 with ⟨rfl, h0⟩ | ⟨g, cap, cur, rfl, hg, hh, hc, hm, hs, ht⟩
  · exact ⟨none, 0, by rw [h0], .inl (List.eq_nil_of_length_eq_zero h0)⟩
  · refine ⟨_, _, rfl, .inr ⟨g, 0, rfl, ?_, fun k hk => ?_⟩⟩
    · exact Nat.lt_of_not_le fun hn => by rw [Array.getElem?_eq_none hn] at hh; cases hh
    · obtain ⟨h1, h2⟩ := acs_get l us k h.len hk
      obtain ⟨p, c, e, hb, _⟩ := h.val k hk
      rw [← ht] at h1 h2
      rw [List.getElem?_take_of_lt (by omega)] at h1 h2
      have q : ∀ i, w.cell? ⟨g, i, none⟩ = cur[i]? := fun i => Lib.cell_of_heap hh i
      refine ⟨by rw [q, Nat.zero_add, ← h1]; simp, p, c, ?_, hb⟩
      rw [q, Nat.zero_add, ← e, ← h2]; simp

/-- One more, put behind. -/
theorem AF.app {fr : Bool} {lo : Nat} {w w1 w2 : World} {v v' u : Value} {l : List AT} {us : List Value} {a : AT} (h : AF fr lo w v l us) (sz : w.heap.size ≤ w1.heap.size) (hw : ∀ k, lo ≤ k → k < w.heap.size → w1.heap[k]? = w.heap[k]?) (hu : OF fr w1 u a.vl) (hlo : lo ≤ w.heap.size) (hn : ∀ k, uB u a.vl.length = some k → w.heap.size ≤ k)
    (ho : w2.ownsRow lo 58 2 v' (l.length + 1) (acs l us ++ [.string a.nm, u])) (hg : w1.grownBy w2 v.ownBlock) (hv : v'.ownBlock = v.ownBlock ∨ v'.ownBlock = some w1.heap.size) : AF fr lo w2 v' (l ++ [a]) (us ++ [u]) := by
  have g1 : ∀ j, j < l.length → (us ++ [u]).getD j undef = us.getD j undef := fun j hj => by simp [List.getD_eq_getElem?_getD, List.getElem?_append_left (h.len.symm ▸ hj)]
  have g2 : (us ++ [u]).getD l.length undef = u := by simp [List.getD_eq_getElem?_getD, ← h.len]
  have a1 : ∀ j, j < l.length → atK (l ++ [a]) j = atK l j := fun j hj => by simp [atK, List.getD_eq_getElem?_getD, List.getElem?_append_left hj]
  have a2 : atK (l ++ [a]) l.length = a := by simp [atK, List.getD_eq_getElem?_getD]
  have old : ∀ j, j < l.length → ∀ k, uB (us.getD j undef) (atK l j).vl.length = some k → k < w.heap.size := fun j hj k e => (h.val j hj).blk e
  have vold : ∀ k, v.ownBlock = some k → k < w.heap.size := fun k e => (h.row.lt k e).2
  have ult : ∀ k, uB u a.vl.length = some k → k < w1.heap.size := fun k e => hu.blk e
  have sz2 : w1.heap.size ≤ w2.heap.size := hg.size
  have hvl : ∀ j, j < l.length → OF fr w2 (us.getD j undef) (atK l j).vl := fun j hj =>
    (h.val j hj).keep (Nat.le_trans sz sz2) (fun k e _ => by
      rw [hg.block k (by have := old j hj k e; omega) (fun e2 => h.av j hj k e2.symm e), hw k (h.vlo j hj k e) (old j hj k e)])
  have huv : OF fr w2 u a.vl :=
    hu.keep sz2 (fun k e _ => hg.block k (ult k e) (fun e2 => by have := vold k e2.symm; have := hn k e; omega))
  refine ⟨by simp [h.len], ?_, fun j hj => ?_, fun j hj k e => ?_, fun i j hij hj k e1 e2 => ?_, fun j hj k e1 e2 => ?_⟩
  · rw [acs_snoc _ _ _ _ h.len, List.length_append]; exact ho
  · rw [List.length_append] at hj
    by_cases e : j = l.length
    · subst e; rw [g2, a2]; exact huv
    · rw [g1 j (by simp at hj; omega), a1 j (by simp at hj; omega)]; exact hvl j (by simp at hj; omega)
  · rw [List.length_append] at hj
    by_cases ej : j = l.length
    · subst ej; rw [g2, a2] at e; have := hn k e; omega
    · rw [g1 j (by simp at hj; omega), a1 j (by simp at hj; omega)] at e; exact h.vlo j (by simp at hj; omega) k e
  · rw [List.length_append] at hj
    rw [g1 i (by simp at hj; omega), a1 i (by simp at hj; omega)] at e1
    by_cases e : j = l.length
    · subst e; rw [g2, a2] at e2; have := old i hij k e1; have := hn k e2; omega
    · rw [g1 j (by simp at hj; omega), a1 j (by simp at hj; omega)] at e2; exact h.ap i j hij (by simp at hj; omega) k e1 e2
  · rw [List.length_append] at hj
    rcases hv with hv | hv
    · rw [hv] at e1
      by_cases e : j = l.length
      · subst e; rw [g2, a2] at e2; have := vold k e1; have := hn k e2; omega
      · rw [g1 j (by simp at hj; omega), a1 j (by simp at hj; omega)] at e2; exact h.av j (by simp at hj; omega) k e1 e2
    · rw [hv] at e1
      cases e1
      by_cases e : j = l.length
      · subst e; rw [g2, a2] at e2; have := ult _ e2; omega
      · rw [g1 j (by simp at hj; omega), a1 j (by simp at hj; omega)] at e2; have := old j (by simp at hj; omega) _ e2; omega

/-- One attribute asked, behind those that are kept. -/
def kaStep (p : PO) (acc : List AT) (a : AT) : List AT := if ((kvF p a.nm a.vl).1 = 0 ∧ posK acc a.nm < 0) ∧ acc.length < 2 then acc ++ [⟨a.nm, (kvF p a.nm a.vl).2⟩] else acc
/-- What is kept of attributes. -/
def kaL (p : PO) (l : List AT) : List AT := l.foldl (kaStep p) []

theorem ka_step (p : PO) (l : List AT) (k : Nat) (h : k < l.length) : kaL p (l.take (k + 1)) = kaStep p (kaL p (l.take k)) (atK l k) := by
  have e2 : l.take (k + 1) = l.take k ++ [atK l k] := by
    rw [List.take_add_one, List.getElem?_eq_getElem h]
    simp [atK, List.getD_eq_getElem?_getD, List.getElem?_eq_getElem h]
  unfold kaL
  rw [e2, List.foldl_append]; rfl

theorem ka_full (p : PO) : ∀ (l acc : List AT), 2 ≤ acc.length → l.foldl (kaStep p) acc = acc
  | [], acc, _ => rfl
  | a :: l, acc, h => by
    rw [List.foldl_cons, show kaStep p acc a = acc from by unfold kaStep; rw [if_neg (by omega)]]
    exact ka_full p l acc h

theorem ka_stop (p : PO) (l : List AT) (k : Nat) (h : 2 ≤ (kaL p (l.take k)).length) : kaL p l = kaL p (l.take k) := by
  conv => lhs; rw [← List.take_append_drop k l]
  unfold kaL at h ⊢
  rw [List.foldl_append, ka_full p _ _ h]

theorem ka_len (p : PO) (l : List AT) : ∀ k, (kaL p (l.take k)).length ≤ 2
  | 0 => by simp [kaL]
  | k + 1 => by
    by_cases h : k < l.length
    · rw [ka_step p l k h]
      have := ka_len p l k
      unfold kaStep
      split
      · rw [List.length_append]; simp; omega
      · exact this
    · rw [List.take_of_length_le (by omega)]
      have := ka_len p l k
      rw [List.take_of_length_le (by omega)] at this
      exact this

end Go.Proofs.YthhdfbgjdfoalaaGreatDoor

/- The program's withAttr, for attributes whose Values lie in rows of any kind. -/
namespace Go.Proofs.YthhdfbgjdfoalaaGreatDoor
open Go.RowKit
set_option linter.unusedVariables false
set_option linter.unusedSimpArgs false

/-- One more, if the name stands nowhere. -/
def addA (l : List AT) (a : AT) : List AT := if 0 ≤ posK l a.nm then l else l ++ [a]

set_option maxRecDepth 100000 in
set_option maxHeartbeats 1600000 in
theorem withAttrF_any (lo : Nat) (wz w : World) (v u : Value) (acc : List AT) (us : List Value) (a : AT) (h : AF true lo wz v acc us) (hsz : wz.heap.size ≤ w.heap.size) (hk : ∀ k, lo ≤ k → k < wz.heap.size → w.heap[k]? = wz.heap[k]?) (hu : OF true w u a.vl) (hn : ∀ k, uB u a.vl.length = some k → wz.heap.size ≤ k) (hlo : lo ≤ wz.heap.size) (few : acc.length ≤ 1000) :
    Calls Tryz.prog 57 #[v, .agg #[.string a.nm, u]] w fun e w' => ∃ v' us', e = .returned v' ∧ AF true lo w' v' (addA acc a) us' ∧ Below lo w w' ∧ ∀ k, k < w.heap.size → v.ownBlock ≠ some k → w'.heap[k]? = w.heap[k]? := by
  have hu0 := hu
  obtain ⟨au, cu, rfl, -, -⟩ := hu0
  have N0 := below_new w (.cells #[.string a.nm, .slice au a.vl.length cu] 58)
  have HO := h.keep hsz (Nat.le_refl _) hk
  have H0 := Hid.mk' (HO.below N0)
  have U0 := Hid.mk' (hu.below N0)
  obtain ⟨av, cv, rfl, hAA⟩ := (HO.below N0).at
  have RB := Hid.mk' (rowp2 w 58 (.string a.nm) (.slice au a.vl.length cu))
  have B0 := Hid.mk' N0
  have HZ := Hid.mk' h
  have HK := Hid.mk' hk
  have HN := Hid.mk' hn
  have sz0 : (w.alloc (.cells #[.string a.nm, .slice au a.vl.length cu] 58)).heap.size = w.heap.size + 1 := by simp
  have KP := Hid.mk' (placeOf_any av cv acc a.nm _ hAA (by omega))
  clear HO N0 hAA h hk hn hu
  generalize hw0 : w.alloc (.cells #[.string a.nm, .slice au a.vl.length cu] 58) = w0 at *
  obtain ⟨g0, g1, g2⟩ := cells2 RB.out
  by_cases hp : 0 ≤ posK acc a.nm
  · have E : Hid (addA acc a = acc) := Hid.mk' (by unfold addA; rw [if_pos hp])
    go_enter Tryz.func57, Tryz.ntmps57
    go_wp2_with fail
    clear hw0
    refine KP.out.mono ?_
    rintro e w1 ⟨rfl, hb⟩
    have H1 := Hid.mk' (H0.out.below hb)
    have B1 := Hid.mk' (B0.out.trans (hb.mono B0.out.size))
    clear hb
    go_wp2
    go_ret
    exact ⟨_, us, rfl, by rw [E.out]; exact H1.out, B1.out.mono (show lo ≤ w.heap.size by omega), fun k h _ => B1.out.block k h⟩
  · have E : Hid (addA acc a = acc ++ [a]) := Hid.mk' (by unfold addA; rw [if_neg hp])
    go_enter Tryz.func57, Tryz.ntmps57
    go_wp2_with fail
    clear hw0
    refine KP.out.mono ?_
    rintro e w1 ⟨rfl, hb⟩
    have RB1 := rowB RB.out hb
    clear g0 g1 g2
    obtain ⟨g0, g1, g2⟩ := cells2 RB1
    have sz1 := hb.size
    have NN := below_new w1 (.cells #[.string a.nm, .slice au a.vl.length cu] 58)
    have M1 := (B0.out.trans (hb.mono B0.out.size)).trans (NN.mono (show w.heap.size ≤ w1.heap.size by omega))
    have OWN := Hid.mk' ((H0.out.below hb).below NN)
    have U1 := Hid.mk' ((U0.out.below hb).below NN)
    have MM := Hid.mk' M1
    clear RB1 hb NN M1
    go_wp2_with (at_builtin; refine wpList_append_at _ rfl (.tmp 11) (.tmp 13) 28 rfl lo 58 (.agg #[.string ⟨#[]⟩, .slice none 0 0]) 2 40 Tryz.underlying28 Tryz.info58 rfl (by decide) _ _ _ rfl OWN.out.row _ 1 _ [.string a.nm, .slice au a.vl.length cu] rfl rfl (.inr ⟨_, rfl, one_attr w1 _ _ _ _ rfl⟩) (by simp [Value.oneCell']) (by unfold maxLen; omega) (by omega) (by simp; omega) ?_; intro v' w4 ho hgr hat)
    have A4 := Hid.mk' (HZ.out.app (w1 := w1.alloc (.cells #[.string a.nm, .slice au a.vl.length cu] 58)) (Nat.le_trans hsz MM.out.size) (fun k h1 h2 => by rw [MM.out.block k (by omega)]; exact HK.out k h1 h2) U1.out hlo HN.out ho hgr hat)
    have B4 := Hid.mk' ((MM.out.mono (show lo ≤ w.heap.size by omega)).grown hgr (by have := MM.out.size; omega) (own_lo OWN.out.row))
    have G4 := Hid.mk' (fun (k : Nat) (h : k < w.heap.size) (hn : (Value.slice av acc.length cv).ownBlock ≠ some k) => (hgr.block k (by have := MM.out.size; omega) (fun e => hn e.symm)).trans (MM.out.block k h))
    clear ho hgr hat
    go_ret
    exact ⟨_, _, rfl, by rw [E.out]; exact A4.out, B4.out, G4.out⟩

end Go.Proofs.YthhdfbgjdfoalaaGreatDoor

/- The program's keptAttrs. -/
namespace Go.Proofs.YthhdfbgjdfoalaaGreatDoor
open Go.RowKit
set_option linter.unusedVariables false
set_option linter.unusedSimpArgs false

set_option maxRecDepth 100000 in
theorem cloneS_any (s : ByteArray) (w : World) (hs : s.size ≤ 1048576) :
    Calls Tryz.prog 58 #[.string s] w fun e w' => e = .returned (.string s) ∧ Below w.heap.size w w' := by
  go_enter Tryz.func58, Tryz.ntmps58
  go_wp2_with fail
  refine (Tryz.stringslite_Clone s w (by omega)).mono ?_
  rintro e w1 ⟨rfl, hb⟩
  have HB := Hid.mk' hb
  clear hb
  go_wp2
  go_ret
  exact ⟨rfl, HB.out⟩

/-- Attributes as toAttrS leaves them. -/
def AV (w : World) (g : Nat) (l : List AT) : Prop := ∃ f, w.rowIs g 58 (l.length * 2) f ∧ ∀ j, j < l.length → f (j * 2) = .string (atK l j).nm ∧ ∃ b, f (j * 2 + 1) = .slice (some ⟨b, 0, none⟩) (atK l j).vl.length (atK l j).vl.length ∧ w.rowIs b 5 (atK l j).vl.length (bv (atK l j).vl)

theorem AV.below {w w' : World} {g : Nat} {l : List AT} (h : AV w g l) (hb : Below w.heap.size w w') : AV w' g l := by
  obtain ⟨f, hr, hf⟩ := h
  refine ⟨f, rowB hr hb, fun j hj => ?_⟩
  obtain ⟨h1, b, h2, h3⟩ := hf j hj
  exact ⟨h1, b, h2, rowB h3 hb⟩

/-- An answer of attributes. -/
def KaP (r : Int × List AT) (w : World) (e : Ending) (w' : World) : Prop := ∃ v us, e = .returned (.agg #[.int .i64 r.1, v]) ∧ AF true w.heap.size w' v r.2 us ∧ Below w.heap.size w w'

theorem kaP_nil {c : Int} {w w' : World} (hb : Below w.heap.size w w') : KaP (c, []) w (.returned (.agg #[.int .i64 c, .slice none 0 0])) w' :=
  ⟨_, [], rfl, AF.nil _ _ _, hb⟩

/-- What is kept of attributes, with its code. -/
def kaF (p : PO) (l : List AT) : Int × List AT := if 20 < l.length then (2, []) else (0, kaL p l)

theorem ka_yes {p : PO} {acc : List AT} {a : AT} (h : (krF p a.nm a.vl).1 = 0) (h2 : acc.length < 2) : addA acc ⟨a.nm, (krF p a.nm a.vl).2⟩ = kaStep p acc a := by
  have e : krF p a.nm a.vl = kvF p a.nm a.vl := by
    unfold krF at h ⊢
    by_cases h0 : (kvF p a.nm a.vl).1 = 0
    · rw [if_pos h0]
    · rw [if_neg h0] at h; exact absurd h h0
  rw [e] at h ⊢
  unfold addA kaStep
  by_cases hp : 0 ≤ posK acc a.nm
  · rw [if_pos hp, if_neg (by intro hh; have := hh.1.2; omega)]
  · rw [if_neg hp, if_pos ⟨⟨h, by omega⟩, h2⟩]
theorem ka_no {p : PO} {acc : List AT} {a : AT} (h : ¬ ((krF p a.nm a.vl).1 = 0 ∧ acc.length < 2)) : kaStep p acc a = acc := by
  unfold kaStep
  rw [if_neg]
  intro hh
  refine h ⟨?_, hh.2⟩
  unfold krF; rw [if_pos hh.1.1]; exact hh.1.1

/-- The boxes of keptAttrs: what is let in, the answer's. -/
theorem boxesA (w : World) (x0 x1 x2 : Value) :
    let W := (w.alloc (.cells #[x0, x1, x2] 63)).alloc (.cells #[.int .i64 0, .slice none 0 0] 30)
    Below w.heap.size w W ∧ W.rowIs w.heap.size 63 3 (r3 x0 x1 x2) ∧ W.rowIs (w.heap.size + 1) 30 2 (q2 (.int .i64 0) (.slice none 0 0)) := by
  refine ⟨(below_new w _).alloc (by simp) _, (row3 w _ x0 x1 x2).alloc _, ?_⟩
  have := rowQ2 (w.alloc (.cells #[x0, x1, x2] 63)) 30 (.int .i64 0) (.slice none 0 0)
  rw [show (w.alloc (.cells #[x0, x1, x2] 63)).heap.size = w.heap.size + 1 by simp] at this
  exact this

set_option maxRecDepth 100000 in
set_option maxHeartbeats 1600000 in
theorem keptAttrs_any (p : PO) (b1 b2 b3 g c lo : Nat) (l : List AT) (w : World) (hm : PM p lo b1 b2 b3 w) (hr : AV w g l) (hc : l.length ≤ c) (hu : ∀ k, k < l.length → ((atK l k).nm.size : Int) ≤ 1048576 ∧ ((atK l k).vl.length : Int) ≤ 1048576 ∧ ∀ j, j < (atK l k).vl.length → 0 ≤ (atK l k).vl.getD j 0 ∧ (atK l k).vl.getD j 0 ≤ 255) (hl : (l.length : Int) ≤ 1048576) (t : TBS w) :
    Calls Tryz.prog 30 #[.agg #[.map (some b1), .map (some b2), .map (some b3)], .slice (some ⟨g, 0, none⟩) l.length c] w fun e w' => KaP (kaF p l) w e w' := by
  obtain ⟨N0, RX, RR⟩ := boxesA w (.map (some b1)) (.map (some b2)) (.map (some b3))
  have HB := Hid.mk' N0
  have HM := Hid.mk' (hm.below N0)
  have HV := Hid.mk' (hr.below N0)
  have HT := Hid.mk' (t.below N0)
  have HX := Hid.mk' RX
  have HR := Hid.mk' RR
  have HU := Hid.mk' hu
  have szW : ((w.alloc (.cells #[.map (some b1), .map (some b2), .map (some b3)] 63)).alloc (.cells #[.int .i64 0, .slice none 0 0] 30)).heap.size = w.heap.size + 2 := by simp
  obtain ⟨y0, y1, y2⟩ := cellsQ2 RR
  obtain ⟨f0, f1⟩ := frzQ2 RR
  clear hm hr t N0 RX RR hu
  generalize hW : (w.alloc (.cells #[.map (some b1), .map (some b2), .map (some b3)] 63)).alloc (.cells #[.int .i64 0, .slice none 0 0] 30) = W at *
  by_cases hlen : 20 < l.length
  · have E : Hid (kaF p l = (2, [])) := Hid.mk' (by unfold kaF; rw [if_pos hlen])
    have ci : (20 : Int) < (l.length : Int) := by omega
    go_enter Tryz.func30, Tryz.ntmps30
    go_wp2
    refine bodyPost_ret (v := .agg #[.int .i64 2, .slice none 0 0]) (by simp [results, Tryz.results30, go_sem, *]) rfl ?_
    rw [E.out]
    exact kaP_nil ((HB.out.setCell (p := ⟨w.heap.size + 1, 0, none⟩) (by simp) _).setCell (p := ⟨w.heap.size + 1, 1, none⟩) (by simp) _)
  have E : Hid (kaF p l = (0, kaL p l)) := Hid.mk' (by unfold kaF; rw [if_neg hlen])
  have ci : ¬ (20 : Int) < (l.length : Int) := by omega
  go_enter Tryz.func30, Tryz.ntmps30
  go_wp2
  clear hW ci y0 y1 f0 f1
  go_loopw [5, 15] (fun v i wr => ∃ (k : Nat) (us : List Value), k ≤ l.length ∧ i = .int .i64 k ∧ AF true W.heap.size wr v (kaL p (l.take k)) us ∧ Below W.heap.size W wr) (fun _ i _ => l.length - (intOf i).toNat)
  case atStart => exact ⟨0, [], Nat.zero_le _, rfl, AF.nil _ _ _, Below.refl _ _⟩
  case round =>
    obtain ⟨k, us, hk, rfl, haf, hbl⟩ := hrel
    obtain ⟨av, cv, rfl, -⟩ := haf.at
    have HA := Hid.mk' haf
    have HBL := Hid.mk' hbl
    have szr := hbl.size
    have few := ka_len p l k
    by_cases hlt : k < l.length
    · have ci : (k : Int) < (l.length : Int) := by omega
      obtain ⟨f, hrow, hf⟩ := HV.out.below hbl
      obtain ⟨e1, b, e2, hrb⟩ := hf k hlt
      obtain ⟨q1, q2, q3⟩ := HU.out k hlt
      have hgl := hrow.lt
      have c1 : wr.cell? ⟨g, k * 2, none⟩ = some (.string (atK l k).nm) := by rw [← e1]; exact hrow.cell (by omega)
      have c2 : wr.cell? ⟨g, k * 2 + 1, none⟩ = some (.slice (some ⟨b, 0, none⟩) (atK l k).vl.length (atK l k).vl.length) := by rw [← e2]; exact hrow.cell (by omega)
      have N1 := below_new wr (.cells #[.string (atK l k).nm, .slice (some ⟨b, 0, none⟩) (atK l k).vl.length (atK l k).vl.length] 58)
      have B1 := hbl.trans (N1.mono szr)
      have KK := Hid.mk' (keptValue_any p b1 b2 b3 b (atK l k).vl.length lo (atK l k).nm (atK l k).vl _ (HM.out.below B1) (rowB hrb N1) (Nat.le_refl _) q1 q3 q2 (HT.out.below B1))
      have HN1 := Hid.mk' N1
      have RA := Hid.mk' (rowp2 wr 58 (.string (atK l k).nm) (.slice (some ⟨b, 0, none⟩) (atK l k).vl.length (atK l k).vl.length))
      have sz1 : (wr.alloc (.cells #[.string (atK l k).nm, .slice (some ⟨b, 0, none⟩) (atK l k).vl.length (atK l k).vl.length] 58)).heap.size = wr.heap.size + 1 := by simp
      obtain ⟨x0, x1, x2, x3⟩ := cellsP (rowB HX.out B1)
      obtain ⟨a0, a1, a2⟩ := cells2 RA.out
      have LX := Hid.mk' (ka_step p l k hlt)
      have YES := Hid.mk' (@ka_yes p (kaL p (l.take k)) (atK l k))
      have NO := Hid.mk' (@ka_no p (kaL p (l.take k)) (atK l k))
      clear haf hbl hf hrow e1 e2 hrb q3 N1 B1
      generalize kaL p (l.take k) = acc at *
      generalize krF p (atK l k).nm (atK l k).vl = R at *
      generalize (atK l k).nm = nm at *
      generalize (atK l k).vl = vl at *
      go_wp2_with fail
      refine KK.out.mono ?_
      clear KK
      rintro e w2 ⟨v, c', rfl, hat, hfa, hfr, hb⟩
      generalize R.1 = R1 at *
      generalize R.2 = R2 at *
      have sz2 := hb.size
      have hin : ∀ k, uB (.slice v R2.length c') R2.length = some k → wr.heap.size ≤ k := fun k e => by
        obtain ⟨h0, e⟩ := uB_pos e
        rcases hat with hat | ⟨b, o, rfl, -, -⟩
        · rw [hat] at h0; simp at h0
        · have := hfr b o rfl; simp [Value.ownBlock] at e; omega
      have HIN := Hid.mk' hin
      have N3 := below_new w2 (.cells #[.int .i64 R1, .slice v R2.length c'] 92)
      have OU := Hid.mk' ((show OF true w2 (.slice v R2.length c') R2 from ⟨v, c', rfl, hat, fun _ => hfa⟩).below N3)
      have HB2 := Hid.mk' (HN1.out.trans ((hb.trans (N3.mono sz2)).mono (show wr.heap.size ≤ _ by omega)))
      have sz3 : (w2.alloc (.cells #[.int .i64 R1, .slice v R2.length c'] 92)).heap.size = w2.heap.size + 1 := by simp
      have HRV := Hid.mk' (rowp2 w2 92 (.int .i64 R1) (.slice v R2.length c'))
      obtain ⟨v0, v1, v2⟩ := cells2 HRV.out
      have HRA := Hid.mk' (rowB RA.out (hb.trans (N3.mono sz2)))
      obtain ⟨a0', a1', a2'⟩ := cells2 HRA.out
      clear hat hfa hfr hb hin N3 a0 a1 a2 x0 x1 x2 x3 c1 c2
      by_cases hR : R1 = 0
      · subst hR
        generalize hW3 : w2.alloc (.cells #[.int .i64 0, .slice v R2.length c'] 92) = W3 at *
        by_cases hA : acc.length < 2
        · have cA : (acc.length : Int) < 2 := by omega
          have KC : Hid (∀ X, Calls Tryz.prog 58 #[.string nm] X fun e w' => e = .returned (.string nm) ∧ Below X.heap.size X w') := Hid.mk' (fun X => cloneS_any nm X (by omega))
          have szv : ∀ k, (Value.slice av acc.length cv).ownBlock = some k → k < wr.heap.size := fun k e => (HA.out.row.lt k e).2
          have KW : Hid (∀ X, Below W3.heap.size W3 X → Calls Tryz.prog 57 #[.slice av acc.length cv, .agg #[.string nm, .slice v R2.length c']] X fun e w' => ∃ v' us', e = .returned v' ∧ AF true W.heap.size w' v' (addA acc ⟨nm, R2⟩) us' ∧ Below W.heap.size wr w' ∧ w'.cell? ⟨wr.heap.size, 0, none⟩ = some (.string nm) ∧ w'.cell? ⟨w2.heap.size, 1, none⟩ = some (.slice v R2.length c')) := Hid.mk' (fun X hX => by
            have BX := HB2.out.trans (hX.mono (show wr.heap.size ≤ W3.heap.size by omega))
            refine (withAttrF_any W.heap.size wr X (.slice av acc.length cv) (.slice v R2.length c') acc us ⟨nm, R2⟩ HA.out BX.size (fun k _ h => BX.block k h) (OU.out.below hX) HIN.out szr (by omega)).mono ?_
            rintro e w5 ⟨v', us', rfl, h1, h2, h3⟩
            refine ⟨v', us', rfl, h1, (BX.mono szr).trans h2, ?_, ?_⟩
            · refine (World.cell?_of_block (h3 wr.heap.size (Nat.lt_of_lt_of_le a2' hX.size) (fun e => by have := szv _ e; omega))).trans ?_
              exact (World.cell?_of_block (hX.block _ a2')).trans a0'
            · refine (World.cell?_of_block (h3 w2.heap.size (Nat.lt_of_lt_of_le v2 hX.size) (fun e => by have := szv _ e; omega))).trans ?_
              exact (World.cell?_of_block (hX.block _ v2)).trans v1)
          clear szv
          go_wp2_with fail
          clear hW3
          go_region_held3 (fun w' => w'.cell? ⟨wr.heap.size, 0, none⟩ = some (.string nm) ∧ w'.cell? ⟨w2.heap.size, 1, none⟩ = some (.slice v R2.length c')) (first | exact ⟨a0', v1⟩ | exact ⟨(hx _ _ a2').trans a0', (hx _ _ v2).trans v1⟩ | exact ⟨z0, z1⟩) (first
            | (go_at_call 58; refine (KC.out _).mono ?_; rintro e w4 ⟨rfl, hb4⟩; replace hb4 := undrew hb4; obtain ⟨hx, hy⟩ := bcell hb4; have HB4 := Hid.mk' hb4; clear hb4)
            | (go_at_call 57; refine (KW.out _ HB4.out).mono ?_; rintro e w5 ⟨v', us', rfl, haf5, hb5, z0, z1⟩; have H5 := Hid.mk' haf5; have HB5 := Hid.mk' (HBL.out.trans hb5); clear haf5 hb5))
          go_wp2
          go_roundw
          case rel => exact ⟨k + 1, us', by omega, by go_num, by rw [LX.out, ← YES.out (by trivial) hA]; exact H5.out, HB5.out⟩
          case measure => simp [intOf]; omega
        · have cA : ¬ (acc.length : Int) < 2 := by omega
          go_wp2
          go_roundw
          case rel => exact ⟨k + 1, us, by omega, by go_num, by rw [LX.out, NO.out (fun h => hA h.2)]; exact HA.out.below HB2.out, HBL.out.trans (HB2.out.mono szr)⟩
          case measure => simp [intOf]; omega
      · generalize hW3 : w2.alloc (.cells #[.int .i64 R1, .slice v R2.length c'] 92) = W3 at *
        go_wp2
        go_roundw
        case rel => exact ⟨k + 1, us, by omega, by go_num, by rw [LX.out, NO.out (fun h => hR h.1)]; exact HA.out.below HB2.out, HBL.out.trans (HB2.out.mono szr)⟩
        case measure => simp [intOf]; omega
    · have ci : ¬ (k : Int) < (l.length : Int) := by omega
      have ek : k = l.length := by omega
      have EK : Hid (kaL p (l.take k) = kaL p l) := Hid.mk' (by rw [ek, List.take_length])
      have HRR := rowB HR.out hbl
      obtain ⟨y0, y1, y2⟩ := cellsQ2 HRR
      obtain ⟨f0, f1⟩ := frzQ2 HRR
      clear HRR haf hbl ek
      generalize kaL p (l.take k) = acc2 at *
      go_wp2
      refine bodyPost_ret (v := .agg #[.int .i64 0, .slice av acc2.length cv]) (by simp [results, Tryz.results30, go_sem, *]) rfl ?_
      rw [E.out, ← EK.out]
      refine ⟨_, us, rfl, ?_, ((HB.out.trans (HBL.out.mono (show w.heap.size ≤ W.heap.size by omega))).setCell (p := ⟨w.heap.size + 1, 0, none⟩) (by simp) _).setCell (p := ⟨w.heap.size + 1, 1, none⟩) (by simp) _⟩
      refine HA.out.keep (by simp [World.setCell]) (by omega) (fun k h1 h2 => ?_)
      rw [Below.heap_setCell _ _ _ _ (by dsimp only; omega), Below.heap_setCell _ _ _ _ (by dsimp only; omega)]

end Go.Proofs.YthhdfbgjdfoalaaGreatDoor

/- KeptAttrs: the program's side, whole. -/
namespace Go.Proofs.YthhdfbgjdfoalaaGreatDoor
open Go.RowKit Go.Maps
set_option linter.unusedVariables false
set_option linter.unusedSimpArgs false

/-- What KeptAttrs answers. -/
def kaP (p : PO) (l : List AT) : Int × List AT := if polF p = 0 then kaF p l else (polF p, [])
theorem kaP_bad {p : PO} {l : List AT} (h : ¬ polF p = 0) : kaP p l = (polF p, []) := by unfold kaP; rw [if_neg h]
theorem kaP_good {p : PO} {l : List AT} (h : polF p = 0) : kaP p l = kaF p l := by unfold kaP; rw [if_pos h]

theorem boxesKA (w : World) (x0 x1 x2 : Value) :
    let W := (w.alloc (.cells #[x0, x1, x2] 32)).alloc (.cells #[.int .i64 0, .slice none 0 0] 30)
    Below w.heap.size w W ∧ W.rowIs w.heap.size 32 3 (r3 x0 x1 x2) ∧ W.rowIs (w.heap.size + 1) 30 2 (q2 (.int .i64 0) (.slice none 0 0)) := by
  refine ⟨(below_new w _).alloc (by simp) _, (row3 w _ x0 x1 x2).alloc _, ?_⟩
  have := rowQ2 (w.alloc (.cells #[x0, x1, x2] 32)) 30 (.int .i64 0) (.slice none 0 0)
  rw [show (w.alloc (.cells #[x0, x1, x2] 32)).heap.size = w.heap.size + 1 by simp] at this
  exact this

set_option maxRecDepth 100000 in
set_option maxHeartbeats 3200000 in
theorem implKA_any (p : PO) (a b c : Option Addr) (n1 n2 n3 g d : Nat) (l : List AT) (w : World) (ha : POAt w a b c p) (hp : (psz p : Int) ≤ 1048576) (hr : AV w g l) (hd : l.length ≤ d) (hu : ∀ k, k < l.length → ((atK l k).nm.size : Int) ≤ 1048576 ∧ ((atK l k).vl.length : Int) ≤ 1048576 ∧ ∀ j, j < (atK l k).vl.length → 0 ≤ (atK l k).vl.getD j 0 ∧ (atK l k).vl.getD j 0 ≤ 255) (hl : (l.length : Int) ≤ 1048576) (t : TBS w) :
    Calls Tryz.prog 10 #[.agg #[.slice a p.tg.length n1, .slice b p.at_.length n2, .slice c p.sc.length n3], .slice (some ⟨g, 0, none⟩) l.length d] w fun e w' => KaP (kaP p l) w e w' := by
  obtain ⟨N0, RX, RR⟩ := boxesKA w (.slice a p.tg.length n1) (.slice b p.at_.length n2) (.slice c p.sc.length n3)
  have KP := Hid.mk' (permitOf_any p a b c n1 n2 n3 _ (ha.below N0) hp)
  have HB := Hid.mk' N0
  have HV := Hid.mk' (hr.below N0)
  have HT := Hid.mk' (t.below N0)
  have HR := Hid.mk' RR
  have HU := Hid.mk' hu
  obtain ⟨x0, x1, x2, x3⟩ := cellsP RX
  clear ha hr t N0 RX RR hu
  generalize hW : (w.alloc (.cells #[.slice a p.tg.length n1, .slice b p.at_.length n2, .slice c p.sc.length n3] 32)).alloc (.cells #[.int .i64 0, .slice none 0 0] 30) = W at *
  go_enter Tryz.func10, Tryz.ntmps10
  go_wp2_with fail
  clear hW x0 x1 x2 x3
  refine KP.out.mono ?_
  rintro e w1 (⟨hp0, rfl, hb⟩ | ⟨hp0, b1, b2, b3, rfl, pm, hb⟩)
  · have E := Hid.mk' (kaP_bad (l := l) hp0)
    have N1 := below_new w1 (.cells #[.map none, .map none, .map none] 63)
    have B1 := hb.trans (N1.mono hb.size)
    have HB := Hid.mk' (HB.out.trans (B1.mono HB.out.size))
    obtain ⟨y0, y1, y2⟩ := cellsQ2 (rowB HR.out B1)
    obtain ⟨f0, f1⟩ := frzQ2 (rowB HR.out B1)
    have h0b : (polF p != 0) = true := by simp [hp0]
    clear hb KP hp0 N1 B1
    generalize polF p = pf at *
    go_wp2
    refine bodyPost_ret (v := .agg #[.int .i64 pf, .slice none 0 0]) (by simp [results, Tryz.results10, go_sem, *]) rfl ?_
    rw [E.out]
    exact kaP_nil ((HB.out.setCell (p := ⟨w.heap.size + 1, 0, none⟩) (by simp) _).setCell (p := ⟨w.heap.size + 1, 1, none⟩) (by simp) _)
  · have E := Hid.mk' (kaP_good (l := l) hp0)
    have N1 := below_new w1 (.cells #[.map (some b1), .map (some b2), .map (some b3)] 63)
    have B1 := hb.trans (N1.mono hb.size)
    have HB := Hid.mk' (HB.out.trans (B1.mono HB.out.size))
    have HR := Hid.mk' (rowB HR.out B1)
    have KK := Hid.mk' (keptAttrs_any p b1 b2 b3 g d _ l _ (pm.below N1) (HV.out.below B1) hd HU.out hl (HT.out.below B1))
    obtain ⟨y0, y1, y2⟩ := cellsQ2 HR.out
    obtain ⟨f0, f1⟩ := frzQ2 HR.out
    obtain ⟨x0, x1, x2, x3⟩ := cellsP (row3 w1 63 (.map (some b1)) (.map (some b2)) (.map (some b3)))
    clear hb KP hp0 N1 B1 pm
    generalize kaF p l = R2 at *
    generalize hW1 : w1.alloc (.cells #[.map (some b1), .map (some b2), .map (some b3)] 63) = W1 at *
    have HY := Hid.mk' y2
    go_wp2_with fail
    clear hW1
    refine KK.out.mono ?_
    rintro e w2 ⟨v, us, rfl, haf, hb⟩
    obtain ⟨av, cv, rfl, -⟩ := haf.at
    have HF := Hid.mk' haf
    have HB := Hid.mk' (HB.out.trans (hb.mono HB.out.size))
    have szb := hb.size
    clear y0 y1 y2 f0 f1 x0 x1 x2 x3
    obtain ⟨z0, z1, z2⟩ := cellsQ2 (rowB HR.out hb)
    obtain ⟨g0, g1⟩ := frzQ2 (rowB HR.out hb)
    clear hb haf KK
    go_wp2
    refine bodyPost_ret (v := .agg #[.int .i64 R2.1, .slice av R2.2.length cv]) (by simp [results, Tryz.results10, go_sem, *]) rfl ?_
    rw [E.out]
    refine ⟨_, us, rfl, ?_, (HB.out.setCell (p := ⟨w.heap.size + 1, 0, none⟩) (by simp) _).setCell (p := ⟨w.heap.size + 1, 1, none⟩) (by simp) _⟩
    refine HF.out.keep (by simp [World.setCell]) (by have := HY.out; omega) (fun k h1 h2 => ?_)
    have := HY.out
    rw [Below.heap_setCell _ _ _ _ (by dsimp only; omega), Below.heap_setCell _ _ _ _ (by dsimp only; omega)]

end Go.Proofs.YthhdfbgjdfoalaaGreatDoor

/- KeptAttrs: the model's side. -/
namespace Go.Proofs.YthhdfbgjdfoalaaGreatDoor
open Go.RowKit
set_option linter.unusedVariables false
set_option linter.unusedSimpArgs false

set_option maxRecDepth 100000 in
set_option maxHeartbeats 1600000 in
theorem l8Attrs_any (p : PO) (g : Nat) (a b c : Option Addr) (n1 n2 n3 : Nat) (q : Option Addr) (d : Nat) (l : List AT) (w : World) (hr : w.rowIs g 32 3 (r3 (.slice a p.tg.length n1) (.slice b p.at_.length n2) (.slice c p.sc.length n3))) (ha : POAt w a b c p) (hp : (psz p : Int) ≤ 1048576) (hq : AAt w q l) (hu : ∀ k, k < l.length → ((atK l k).vl.length : Int) ≤ 1048576 ∧ ∀ j, j < (atK l k).vl.length → 0 ≤ (atK l k).vl.getD j 0 ∧ (atK l k).vl.getD j 0 ≤ 255) (hl : (l.length : Int) ≤ 1048576) :
    Calls Tryz.prog 26 #[.pointer (some ⟨g, 0, none⟩), .slice q l.length d] w fun e w' => ∃ v us, e = .returned v ∧ AF false w.heap.size w' v (kaL p l) us ∧ Below w.heap.size w w' := by
  have HR := Hid.mk' hr
  have HP := Hid.mk' ha
  have HQ := Hid.mk' hq
  have HU := Hid.mk' hu
  clear hr ha hq hu
  have KL : Hid (∀ (X : World) (k : Nat) (x : Option Addr) (y : Nat), Below w.heap.size w X → k < l.length → BAt X x (atK l k).vl → Calls Tryz.prog 48 #[.pointer (some ⟨g, 0, none⟩), .string (atK l k).nm, .slice x (atK l k).vl.length y] X fun e w' => ∃ v c', e = .returned (.tuple #[.slice v (kvF p (atK l k).nm (atK l k).vl).2.length c', .int .i64 (kvF p (atK l k).nm (atK l k).vl).1]) ∧ BAt w' v (kvF p (atK l k).nm (atK l k).vl).2 ∧ (∀ b o, v = some ⟨b, o, none⟩ → X.heap.size ≤ b) ∧ Below X.heap.size X w') := Hid.mk' (fun X k x y hb hk hx => l8Kept_any p g a b c n1 n2 n3 (atK l k).nm x y (atK l k).vl X (rowB HR.out hb) (HP.out.below hb) hp hx (HU.out k hk).2 (HU.out k hk).1)
  clear HR HP HU
  go_enter Tryz.func26, Tryz.ntmps26
  go_wp2
  go_loopw [5, 6] (fun v i wr => ∃ (k : Nat) (us : List Value), k ≤ l.length ∧ i = .int .i64 k ∧ AF false w.heap.size wr v (kaL p (l.take k)) us ∧ Below w.heap.size w wr) (fun _ i _ => l.length - (intOf i).toNat)
  case atStart =>
    refine ⟨0, [], Nat.zero_le _, rfl, ⟨rfl, ?_, fun j h => absurd h (Nat.not_lt_zero _), fun j h => absurd h (Nat.not_lt_zero _), fun i j _ h => absurd h (Nat.not_lt_zero _), fun j h => absurd h (Nat.not_lt_zero _)⟩, below_new w _⟩
    exact World.ownsRow_lit (base := w.heap.size) (e := 58) (size := 2) w #[] 0 (by simp) (by unfold maxLen; omega) rfl
  case round =>
    obtain ⟨k, us, hk, rfl, haf, hbl⟩ := hrel
    obtain ⟨av, cv, rfl, hAA⟩ := haf.at
    have HA := Hid.mk' haf
    have HBL := Hid.mk' hbl
    have HAA := Hid.mk' hAA
    have szr := hbl.size
    have few := ka_len p l k
    by_cases hlt : k < l.length
    · have ci : (k : Int) < (l.length : Int) := by omega
      by_cases hA : (kaL p (l.take k)).length < 2
      · have cA : ((kaL p (l.take k)).length : Int) < 2 := by omega
        rcases HQ.out.below hbl with ha | ⟨bq, oq, rfl, hbs, hc⟩
        · exact absurd hlt (by rw [ha]; exact Nat.not_lt_zero _)
        obtain ⟨c1, pv, pc, c2, hpv⟩ := hc k hlt
        have KK := Hid.mk' (fun X (hX : Below wr.heap.size wr X) => KL.out X k pv pc (hbl.trans (hX.mono szr)) hlt (hpv.below hX))
        have LX := Hid.mk' (ka_step p l k hlt)
        have STP : Hid (kaStep p (kaL p (l.take k)) (atK l k) = if ((kvF p (atK l k).nm (atK l k).vl).1 = 0 ∧ posK (kaL p (l.take k)) (atK l k).nm < 0) ∧ (kaL p (l.take k)).length < 2 then kaL p (l.take k) ++ [⟨(atK l k).nm, (kvF p (atK l k).nm (atK l k).vl).2⟩] else kaL p (l.take k)) := Hid.mk' rfl
        clear haf hbl hc hAA hpv
        generalize kaL p (l.take k) = acc at *
        generalize (kvF p (atK l k).nm (atK l k).vl).1 = C at *
        generalize (kvF p (atK l k).nm (atK l k).vl).2 = K2 at *
        generalize hst : kaStep p acc (atK l k) = AS at *
        generalize (atK l k).nm = nm at *
        generalize (atK l k).vl = vl at *
        clear hst
        go_wp2_with fail
        go_region_held3 (fun w' => w'.cell? ⟨bq, oq + k * 2, none⟩ = some (.string nm) ∧ w'.cell? ⟨bq, oq + k * 2 + 1, none⟩ = some (.slice pv vl.length pc)) (first | exact ⟨c1, c2⟩ | exact ⟨(hx _ _ hbs).trans c1, (hx _ _ hbs).trans c2⟩) ((go_at_call 48; refine (KK.out _ (Below.refl _ _).drew).mono ?_; rintro e w2 ⟨v, c', rfl, hat, hfr, hb⟩; replace hb := undrew hb; obtain ⟨hx, hy⟩ := bcell hb; have HAT := Hid.mk' hat; have HFR := Hid.mk' hfr; have HB2 := Hid.mk' hb; clear hat hfr hb))
        have d1 := (hx bq (oq + k * 2) hbs).trans c1
        have d2 := (hx bq (oq + k * 2 + 1) hbs).trans c2
        have sz2 := HB2.out.size
        have hbs2 : bq < w2.heap.size := Nat.lt_of_lt_of_le hbs sz2
        have B2 := Hid.mk' (HBL.out.trans (HB2.out.mono szr))
        clear hx hy c1 c2 KK KL
        by_cases hC : C = 0
        · subst hC
          have KH := Hid.mk' (l4Has_any av cv acc nm w2 (HAA.out.below HB2.out) (by omega))
          by_cases hp0 : posK acc nm < 0
          · have ES : Hid (AS = acc ++ [⟨nm, K2⟩]) := Hid.mk' (by rw [STP.out, if_pos ⟨⟨by trivial, hp0⟩, hA⟩])
            have NN := below_new w2 (.cells #[.string nm, .slice v K2.length c'] 58)
            have OWN := Hid.mk' ((HA.out.below HB2.out).below NN)
            have M1 := Hid.mk' (HB2.out.trans (NN.mono sz2))
            have OU := Hid.mk' ((show OF false w2 (.slice v K2.length c') K2 from ⟨v, c', rfl, HAT.out, fun h => by cases h⟩).below NN)
            have HIN : Hid (∀ k, uB (.slice v K2.length c') K2.length = some k → wr.heap.size ≤ k) := Hid.mk' (fun k e => by
              obtain ⟨h0, e⟩ := uB_pos e
              rcases HAT.out with hat | ⟨b, o, rfl, -, -⟩
              · rw [hat] at h0; simp at h0
              · have := HFR.out b o rfl; simp [Value.ownBlock] at e; have e3 : wr.drew.heap.size = wr.heap.size := rfl; omega)
            clear NN STP
            go_wp2_with fail
            refine KH.out.mono ?_
            rintro e w3 ⟨rfl, hw⟩
            obtain rfl := hw.symm
            go_wp2_with (at_builtin; refine wpList_append_at _ rfl (.tmp 48) (.tmp 56) 28 rfl w.heap.size 58 (.agg #[.string ⟨#[]⟩, .slice none 0 0]) 2 40 Tryz.underlying28 Tryz.info58 rfl (by decide) _ _ _ rfl OWN.out.row _ 1 _ [.string nm, .slice v K2.length c'] rfl rfl (.inr ⟨_, rfl, one_attr w2 _ _ _ _ rfl⟩) (by simp [Value.oneCell']) (by unfold maxLen; omega) (by omega) (by simp; omega) ?_; intro v' w4 ho hgr hat)
            have A4 := Hid.mk' (HA.out.app (a := ⟨nm, K2⟩) M1.out.size (fun k _ h2 => M1.out.block k h2) OU.out szr HIN.out ho hgr hat)
            have B4 := Hid.mk' ((HBL.out.trans (M1.out.mono szr)).grown hgr (by have := M1.out.size; omega) (own_lo OWN.out.row))
            clear ho hgr hat
            go_wp2
            go_roundw
            case rel => exact ⟨k + 1, _, by omega, by go_num, by rw [LX.out, ES.out]; exact A4.out, B4.out⟩
            case measure => simp [intOf]; omega
          · have ES : Hid (AS = acc) := Hid.mk' (by rw [STP.out, if_neg (fun h => hp0 h.1.2)])
            clear STP
            go_wp2_with fail
            refine KH.out.mono ?_
            rintro e w3 ⟨rfl, hw⟩
            obtain rfl := hw.symm
            go_wp2
            go_roundw
            case rel => exact ⟨k + 1, us, by omega, by go_num, by rw [LX.out, ES.out]; exact HA.out.below HB2.out, B2.out⟩
            case measure => simp [intOf]; omega
        · have ES : Hid (AS = acc) := Hid.mk' (by rw [STP.out, if_neg (fun h => hC h.1.1)])
          clear STP
          go_wp2
          go_roundw
          case rel => exact ⟨k + 1, us, by omega, by go_num, by rw [LX.out, ES.out]; exact HA.out.below HB2.out, B2.out⟩
          case measure => simp [intOf]; omega
      · have cA : ¬ ((kaL p (l.take k)).length : Int) < 2 := by omega
        have EK := Hid.mk' (ka_stop p l k (by omega))
        clear haf hbl hAA
        generalize kaL p (l.take k) = acc at *
        go_wp2
        go_ret
        exact ⟨_, rfl, ⟨us, by rw [EK.out]; exact HA.out⟩, HBL.out⟩
    · have ci : ¬ (k : Int) < (l.length : Int) := by omega
      have EK : Hid (kaL p l = kaL p (l.take k)) := Hid.mk' (by rw [show k = l.length by omega, List.take_length])
      clear haf hbl hAA
      generalize kaL p (l.take k) = acc at *
      go_wp2
      go_ret
      exact ⟨_, rfl, ⟨us, by rw [EK.out]; exact HA.out⟩, HBL.out⟩

/-- What the model's KeptAttrs leaves. -/
def KsP (r : Int × List AT) (w : World) (e : Ending) (w' : World) : Prop := ∃ v us, e = .returned (.agg #[.int .i64 r.1, v]) ∧ AF false w.heap.size w' v r.2 us ∧ Below w.heap.size w w'

theorem ksP_nil {c : Int} {w w' : World} (hb : Below w.heap.size w w') : KsP (c, []) w (.returned (.agg #[.int .i64 c, .slice none 0 0])) w' :=
  ⟨_, [], rfl, AF.nil _ _ _, hb⟩

set_option maxRecDepth 100000 in
set_option maxHeartbeats 3200000 in
theorem specKA_any (p : PO) (a b c : Option Addr) (n1 n2 n3 : Nat) (q : Option Addr) (d : Nat) (l : List AT) (w : World) (ha : POAt w a b c p) (hp : (psz p : Int) ≤ 1048576) (hq : AAt w q l) (hu : ∀ k, k < l.length → ((atK l k).vl.length : Int) ≤ 1048576 ∧ ∀ j, j < (atK l k).vl.length → 0 ≤ (atK l k).vl.getD j 0 ∧ (atK l k).vl.getD j 0 ≤ 255) (hl : (l.length : Int) ≤ 1048576) :
    Calls Tryz.prog 7 #[.agg #[.slice a p.tg.length n1, .slice b p.at_.length n2, .slice c p.sc.length n3], .slice q l.length d] w fun e w' => KsP (kaP p l) w e w' := by
  obtain ⟨N0, RX, RR⟩ := boxesKA w (.slice a p.tg.length n1) (.slice b p.at_.length n2) (.slice c p.sc.length n3)
  have KF := l8Fault_any p w.heap.size a b c n1 n2 n3 _ RX (ha.below N0) hp
  have HA := Hid.mk' (ha.below N0)
  have HV := Hid.mk' (hq.below N0)
  have HU := Hid.mk' hu
  have HB := Hid.mk' N0
  have HX := Hid.mk' RX
  have HR := Hid.mk' RR
  clear ha hq hu N0 RX RR
  generalize hW : (w.alloc (.cells #[.slice a p.tg.length n1, .slice b p.at_.length n2, .slice c p.sc.length n3] 32)).alloc (.cells #[.int .i64 0, .slice none 0 0] 30) = W at *
  go_enter Tryz.func7, Tryz.ntmps7
  go_wp2_with fail
  clear hW
  refine (Hid.mk' KF).out.mono ?_
  rintro e w1 ⟨rfl, hb1⟩
  have HB1 := Hid.mk' (HB.out.trans (hb1.mono HB.out.size))
  have HX1 := Hid.mk' (rowB HX.out hb1)
  have HR1 := Hid.mk' (rowB HR.out hb1)
  have SZ : Hid (w.heap.size + 1 < w1.heap.size) := Hid.mk' HR1.out.lt
  by_cases h0 : polF p = 0
  · have E0 := kaP_good (l := l) h0
    rw [h0]
    by_cases hlen : 20 < l.length
    · have E : Hid (kaP p l = (2, [])) := Hid.mk' (by rw [E0]; unfold kaF; rw [if_pos hlen])
      have ci : (20 : Int) < (l.length : Int) := by omega
      obtain ⟨y0, y1, y2⟩ := cellsQ2 HR1.out
      obtain ⟨f0, f1⟩ := frzQ2 HR1.out
      clear hb1 KF E0 h0
      go_wp2
      refine bodyPost_ret (v := .agg #[.int .i64 2, .slice none 0 0]) (by simp [results, Tryz.results7, go_sem, *]) rfl ?_
      rw [E.out]
      exact ksP_nil ((HB1.out.setCell (p := ⟨w.heap.size + 1, 0, none⟩) (by simp) _).setCell (p := ⟨w.heap.size + 1, 1, none⟩) (by simp) _)
    · have E : Hid (kaP p l = (0, kaL p l)) := Hid.mk' (by rw [E0]; unfold kaF; rw [if_neg hlen])
      have ci : ¬ (20 : Int) < (l.length : Int) := by omega
      have KL := Hid.mk' (l8Attrs_any p w.heap.size a b c n1 n2 n3 q d l w1 HX1.out (HA.out.below hb1) hp (HV.out.below hb1) HU.out hl)
      clear hb1 KF E0 h0
      go_wp2_with fail
      refine KL.out.mono ?_
      rintro e w2 ⟨v, us, rfl, haf, hb2⟩
      obtain ⟨av, cv, rfl, -⟩ := haf.at
      obtain ⟨y0, y1, y2⟩ := cellsQ2 (rowB HR1.out hb2)
      obtain ⟨f0, f1⟩ := frzQ2 (rowB HR1.out hb2)
      have HB2 := Hid.mk' (HB1.out.trans (hb2.mono HB1.out.size))
      have HF := Hid.mk' haf
      clear hb2 haf KL
      generalize kaL p l = K2 at *
      go_wp2
      refine bodyPost_ret (v := .agg #[.int .i64 0, .slice av K2.length cv]) (by simp [results, Tryz.results7, go_sem, *]) rfl ?_
      rw [E.out]
      refine ⟨_, us, rfl, ?_, (HB2.out.setCell (p := ⟨w.heap.size + 1, 0, none⟩) (by simp) _).setCell (p := ⟨w.heap.size + 1, 1, none⟩) (by simp) _⟩
      have := SZ.out
      refine HF.out.keep (by simp [World.setCell]) (by omega) (fun k h1 h2 => ?_)
      rw [Below.heap_setCell _ _ _ _ (by dsimp only; omega), Below.heap_setCell _ _ _ _ (by dsimp only; omega)]
  · have E := Hid.mk' (kaP_bad (l := l) h0)
    obtain ⟨y0, y1, y2⟩ := cellsQ2 HR1.out
    obtain ⟨f0, f1⟩ := frzQ2 HR1.out
    clear hb1 KF
    generalize polF p = C at *
    go_wp2
    refine bodyPost_ret (v := .agg #[.int .i64 C, .slice none 0 0]) (by simp [results, Tryz.results7, go_sem, *]) rfl ?_
    rw [E.out]
    exact ksP_nil ((HB1.out.setCell (p := ⟨w.heap.size + 1, 0, none⟩) (by simp) _).setCell (p := ⟨w.heap.size + 1, 1, none⟩) (by simp) _)

end Go.Proofs.YthhdfbgjdfoalaaGreatDoor
