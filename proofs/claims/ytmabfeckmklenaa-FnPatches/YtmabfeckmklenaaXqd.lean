/- The law FnDiffs. -/
import Derived.Test.YtmabfeckmklenaaXqb
import Derived.Test.YtmabfeckmklenaaXqc
import Derived.Test.YtmabfeckmklenaaXph
import Derived.Test.YtmabfeckmklenaaXpk
import Derived.BigGuard
namespace Go.Proofs.Ytmabfeckmklenaa
open Go.RowKit
set_option linter.unusedVariables false
set_option linter.unusedSimpArgs false

theorem lwBigD_any (a : Option Addr) (c n : Nat) (w : World) :
    Calls Try.prog 5 #[.slice a n c] w fun e w' => e = .returned (.bool (decide ((1048576 : Int) < (n : Int)))) ∧ w' = w := by
  go_enter Try.func5, Try.ntmps5
  go_wp2
  go_ret
  exact ⟨rfl, rfl⟩

theorem lwBytes_beq (a a' : Option Addr) (c c' : Nat) (l m : List Int) (w : World) (h : BAt w a l) (h' : BAt w a' m) :
    Calls Try.prog 9 #[.slice a l.length c, .slice a' m.length c'] w fun e w' => e = .returned (.bool (beqB l m)) ∧ w' = w := by
  have c1 := conv_bytesT c h
  have c2 := conv_bytesT c' h'
  clear h h'
  go_enter Try.func9, Try.ntmps9
  go_wp2
  go_ret
  exact ⟨rfl, rfl⟩

theorem po_atD {lo hi : Nat} {w : World} {a : Option Addr} {n c : Nat} {l : List XK} (h : PO lo hi w (.slice a n c) l) : XsAt w a l := by
  obtain ⟨b, d, e, hx⟩ := h.at
  injection e with e1 e2 e3
  subst e1
  exact hx

theorem wide_df (l m : List Int) (hl : l.length ≤ 240) (hm : m.length ≤ 240) : WideX [dfX l m] := by
  intro k hk
  have : k = 0 := by simp at hk; omega
  subst this
  have := dfE_le l m
  simp only [xkK, List.getD_cons_zero, dfX, List.length_take, List.length_drop]
  omega

theorem sz_df (l m : List Int) (hl : l.length ≤ 240) (hm : m.length ≤ 240) : (([dfX l m] : List XK).length : Int) + xsz [dfX l m] ≤ 1048576 := by
  simp only [xsz, dfX, List.length_cons, List.length_nil, List.length_take, List.length_drop]
  omega

theorem df_vals (l m : List Int) : ∀ (n t : Nat) (P : List Int), dfX l m = ⟨(n : Int), (t : Int), P⟩ → n + t ≤ l.length ∧ P.length ≤ m.length ∧ (0 < t → 0 < P.length → l.getD n 0 ≠ P.getD 0 0 ∧ l.getD (n + t - 1) 0 ≠ P.getD (P.length - 1) 0) := by
  intro n t P h
  have LE := dfE_le l m
  unfold dfX at h
  injection h with h1 h2 h3
  have e1 : cpl l m = n := by omega
  have e2 : l.length - cpl l m - dfE l m = t := by omega
  have pl : P.length = m.length - cpl l m - dfE l m := by rw [← h3, List.length_take, List.length_drop]; omega
  refine ⟨by omega, by omega, fun ht hp => ?_⟩
  have f1 := df_first l m (by omega) (by omega)
  have f2 := df_last l m (by omega) (by omega)
  rw [h3] at f1 f2
  rw [e1] at f1
  refine ⟨f1, ?_⟩
  rw [show n + t - 1 = l.length - 1 - dfE l m by omega, pl]
  exact f2

theorem fPR0 (c : Int) (a : Option Addr) (n k : Nat) (w : World) : (Instr.field 28 (.agg #[.int .i64 c, .slice a n k]) 0).run Try.prog w = .ok (.int .i64 c) w := by kernel_rfl

theorem fPR1 (c : Int) (a : Option Addr) (n k : Nat) (w : World) : (Instr.field 28 (.agg #[.int .i64 c, .slice a n k]) 1).run Try.prog w = .ok (.slice a n k) w := by kernel_rfl

set_option maxRecDepth 100000 in
set_option maxHeartbeats 6400000 in
theorem lawFD_any (q : Option Addr) (c' : Nat) (l : List Int) (w : World) (hd : BAt w q l) (hu : ∀ i, i < l.length → 0 ≤ l.getD i 0 ∧ l.getD i 0 ≤ 255) (hl : (l.length : Int) ≤ 9223372036854775807) :
    Calls Try.prog 3 #[.slice q l.length c'] w fun e w' => e = .returned (.bool true) ∧ Below w.heap.size w w' := by
  have K0 := Hid.mk' (lwBigD_any q c' l.length w)
  by_cases g1 : (1048576 : Int) < (l.length : Int)
  · go_enter Try.func3, Try.ntmps3
    go_wp2_with fail
    refine K0.out.mono ?_
    rintro e w1 ⟨rfl, hw1⟩
    obtain rfl := hw1.symm
    rw [decide_eq_true g1]
    go_wp2
    go_ret
    exact ⟨rfl, Below.refl _ _⟩
  have ll : (l.length : Int) ≤ 1048576 := by omega
  have KD := Hid.mk' (drawDT_any q c' l w hd hu ll)
  clear hd hu
  go_enter Try.func3, Try.ntmps3
  go_wp2_with fail
  refine K0.out.mono ?_
  rintro e w1 ⟨rfl, hw1⟩
  obtain rfl := hw1.symm
  rw [decide_eq_false (show ¬ (1048576 : Int) < (l.length : Int) by omega)]
  clear K0 g1 hw1
  go_wp2_with fail
  refine KD.out.mono ?_
  rintro e w2 ⟨A, B, gA, cA, gB, cB, rfl, hA, hB, hcA, hcB, lA, lB, hb2⟩
  have HA := Hid.mk' hA
  have HB := Hid.mk' hB
  have B2 := Hid.mk' hb2
  clear KD hA hB hb2
  go_wp2_with fail
  refine (implDT_any gA 0 cA gB 0 cB A B w2 HA.out HB.out hcA hcB).mono ?_
  rintro e w3 ⟨v, rfl, hp, hb3⟩
  obtain ⟨va, vc, ev, _⟩ := hp.at
  subst ev
  have N3 := below_new w3 (.cells #[.int .i64 (dtC A B), .slice va (dtL A B).length vc] 28)
  have M3 := hb3.trans (N3.mono hb3.size)
  have B3 := Hid.mk' (B2.out.trans (M3.mono B2.out.size))
  have HA := Hid.mk' (HA.out.below M3)
  have HB := Hid.mk' (HB.out.below M3)
  have P3 := Hid.mk' (hp.below N3)
  have R3 := Hid.mk' (rowp2 w3 28 (.int .i64 (dtC A B)) (.slice va (dtL A B).length vc))
  have Q3 := Hid.mk' hb3.size
  clear hb3 hp N3 M3 B2
  by_cases hbig : 240 < A.length ∨ 240 < B.length
  · have EC : dtC A B = 6 := by unfold dtC; rw [if_pos hbig]
    rw [EC] at R3 P3 B3 HA HB ⊢
    have EC := Hid.mk' EC
    generalize hW : w3.alloc (.cells #[.int .i64 6, .slice va (dtL A B).length vc] 28) = W at *
    obtain ⟨y0, y1, y2⟩ := cells2 R3.out
    go_wp2_with fail
    clear hW
    have hF := fPR0
    go_region_held3 (fun w' => w'.cell? ⟨w3.heap.size, 0, none⟩ = some (.int .i64 6)) (simp [*])
      ((go_at_call 8; refine (specDT_any gA 0 cA gB 0 cB A B _ (HA.out.below (Below.refl _ _).drew) (HB.out.below (Below.refl _ _).drew) hcA hcB).mono ?_; rintro e w5 ⟨v5, rfl, hp5, hb5⟩; replace hb5 := undrew hb5; obtain ⟨a5, c5, ev5, _⟩ := hp5.at; subst ev5; rw [EC.out]; obtain ⟨hx1, hx2⟩ := bcell hb5))
    go_wp2
    go_ret
    exact ⟨rfl, B3.out.trans (hb5.mono B3.out.size)⟩
  have lA2 : A.length ≤ 240 := by omega
  have lB2 : B.length ≤ 240 := by omega
  have EC : dtC A B = 0 := by unfold dtC; rw [if_neg hbig]
  have EL : dtL A B = dfL A B := by unfold dtL; rw [if_neg hbig]
  rw [EC, EL] at R3 P3 B3 HA HB ⊢
  have EC := Hid.mk' EC
  have EL := Hid.mk' EL
  have PFA := Hid.mk' (pat_diff A B lA2 lB2)
  have APD := Hid.mk' (ap_diff A B lA2 lB2)
  rcases dfL_cases A B with ⟨hb, hL⟩ | ⟨hb, hL⟩
  · rw [hL] at R3 P3 B3 HA HB ⊢
    simp only [List.length_nil, List.length_singleton] at R3 P3 B3 HA HB ⊢
    generalize hW : w3.alloc (.cells #[.int .i64 0, .slice va 0 vc] 28) = W at *
    obtain ⟨y0, y1, y2⟩ := cells2 R3.out
    have PF := PFA.out
    rw [hL] at PF
    have PF := Hid.mk' PF
    have HL := Hid.mk' hL
    have HE := Hid.mk' hb
    have XA := Hid.mk' (po_atD P3.out)
    have WX : Hid (WideX []) := Hid.mk' (fun k hk => absurd hk (Nat.not_lt_zero _))
    have KLW : Hid (∀ v, Below W.heap.size W v → Calls Try.prog 9 #[.slice (some ⟨gA, 0, none⟩) A.length cA, .slice (some ⟨gB, 0, none⟩) B.length cB] v fun e w' => e = .returned (.bool true) ∧ w' = v) := Hid.mk' (fun v hv => by
      have := lwBytes_beq (some ⟨gA, 0, none⟩) (some ⟨gB, 0, none⟩) cA cB A B v (HA.out.below hv).at (HB.out.below hv).at
      rwa [HE.out] at this)
    have KPF : Hid (∀ v, Below W.heap.size W v → Calls Try.prog 10 #[.slice va 0 vc, .int .i64 (A.length : Int)] v fun e w' => e = .returned (.int .i64 0) ∧ Below v.heap.size v w') := Hid.mk' (fun v hv => by
      have := implPF_any va vc [] (A.length : Int) v (XA.out.below hv) WX.out
      rwa [PF.out] at this)
    clear hL hb
    go_wp2_with fail
    clear hW
    go_region_held3 (fun w' => w'.cell? ⟨w3.heap.size, 1, none⟩ = some (.slice va 0 vc)) (simp [*])
      (first | (go_at_call 9; refine (KLW.out _ (Below.refl _ _).drew).mono ?_; rintro e w5 ⟨rfl, hw5⟩; obtain rfl := hw5.symm) | (go_at_call 10; refine (KPF.out _ (Below.refl _ _).drew).mono ?_; rintro e w6 ⟨rfl, hb6⟩; replace hb6 := undrew hb6; obtain ⟨hx1, hx2⟩ := bcell hb6))
    have B6 := Hid.mk' (B3.out.trans (hb6.mono B3.out.size))
    have R6 := Hid.mk' (rowB R3.out hb6)
    have P6 := Hid.mk' (P3.out.below hb6)
    have HA6 := Hid.mk' (HA.out.below hb6)
    have HB6 := Hid.mk' (HB.out.below hb6)
    clear R3 P3 B3 HA HB XA KLW KPF hb6 hx1 hx2 y0 y1 y2
    obtain ⟨y0, y1, y2⟩ := cells2 R6.out
    go_wp2
    go_loopw [6, 7] (fun i _ wr => i = .int .i64 0 ∧ Below w6.heap.size w6 wr) (fun _ _ _ => 0)
    case atStart => exact ⟨rfl, Below.refl _ _⟩
    case round =>
      obtain ⟨rfl, hbw⟩ := hrel
      have R7 := Hid.mk' (rowB R6.out hbw)
      have P7 := Hid.mk' (P6.out.below hbw)
      have HA7 := Hid.mk' (HA6.out.below hbw)
      have HB7 := Hid.mk' (HB6.out.below hbw)
      have B7 := Hid.mk' (B6.out.trans (hbw.mono B6.out.size))
      have AP := APD.out
      rw [HL.out] at AP
      have AP := Hid.mk' AP
      clear hbw y0 y1 y2
      obtain ⟨y0, y1, y2⟩ := cells2 R7.out
      have KA := Hid.mk' (implAP_any gA 0 cA A va vc [] wr HA7.out hcA (po_atD P7.out) WX.out (by omega))
      go_wp2_with fail
      refine KA.out.mono ?_
      rintro e w8 ⟨v8, rfl, o8, i8, hb8⟩
      rw [AP.out.1]
      obtain ⟨a8, c8, ev8, hat8⟩ := o8.len
      subst ev8
      have AL := Hid.mk' (apB_len A [])
      have N8 := below_new w8 (.cells #[.int .i64 0, .slice a8 (apB A []).length c8] 35)
      have M8 := hb8.trans (N8.mono hb8.size)
      have R8 := Hid.mk' (rowB R7.out M8)
      have P8 := Hid.mk' (po_atD (P7.out.below M8))
      have HA8 := Hid.mk' (HA7.out.below M8)
      have HB8 := Hid.mk' (HB7.out.below M8)
      have B8 := Hid.mk' (B7.out.trans (M8.mono B7.out.size))
      have T8 := Hid.mk' (hat8.below N8)
      have Q8 := Hid.mk' (rowp2 w8 35 (.int .i64 0) (.slice a8 (apB A []).length c8))
      clear R7 P7 HA7 HB7 B7 KA o8 i8 hb8 N8 M8 hat8 y0 y1 y2
      have EQ := Hid.mk' AP.out.2
      generalize apB A [] = r8 at *
      generalize hW8 : w8.alloc (.cells #[.int .i64 0, .slice a8 r8.length c8] 35) = W8 at *
      obtain ⟨y0, y1, y2⟩ := cells2 R8.out
      obtain ⟨x0, x1, x2⟩ := cells2 Q8.out
      have KLB : Hid (∀ v, Below W8.heap.size W8 v → Calls Try.prog 9 #[.slice a8 r8.length c8, .slice (some ⟨gB, 0, none⟩) B.length cB] v fun e w' => e = .returned (.bool true) ∧ w' = v) := Hid.mk' (fun v hv => by
        have := lwBytes_beq a8 (some ⟨gB, 0, none⟩) c8 cB r8 B v (T8.out.below hv) (HB8.out.below hv).at
        rwa [EQ.out] at this)
      have KDT : Hid (∀ v, Below W8.heap.size W8 v → Calls Try.prog 8 #[.slice (some ⟨gA, 0, none⟩) A.length cA, .slice (some ⟨gB, 0, none⟩) B.length cB] v fun e w' => ∃ a5 c5, e = .returned (.agg #[.int .i64 0, .slice a5 0 c5]) ∧ XsAt w' a5 [] ∧ Below v.heap.size v w') := Hid.mk' (fun v hv => by
        refine (specDT_any gA 0 cA gB 0 cB A B v (HA8.out.below hv) (HB8.out.below hv) hcA hcB).mono ?_
        rintro e wd ⟨vd, rfl, hpd, hbd⟩
        rw [EC.out]
        rw [EL.out, HL.out] at hpd
        obtain ⟨a5, c5, e5, hx5⟩ := hpd.at
        subst e5
        exact ⟨a5, c5, rfl, hx5, hbd⟩)
      have KSP : Hid (∀ v a5 c5, XsAt v va [] → XsAt v a5 [] → Calls Try.prog 12 #[.slice va 0 vc, .slice a5 0 c5] v fun e w' => e = .returned (.bool true) ∧ Below v.heap.size v w') := Hid.mk' (fun v a5 c5 h1 h2 => by
        have := implSX_any va a5 vc c5 [] [] v h1 h2 (by simp [xsz]) (by simp [xsz])
        rwa [sameXs_refl] at this)
      have hF := fPR1
      go_wp2_with fail
      clear hW8
      go_region_held3 (fun w' => w'.cell? ⟨w8.heap.size, 0, none⟩ = some (.int .i64 0) ∧ w'.cell? ⟨w8.heap.size, 1, none⟩ = some (.slice a8 r8.length c8) ∧ w'.cell? ⟨w3.heap.size, 1, none⟩ = some (.slice va 0 vc)) (simp [*])
        (first | (go_at_call 9; refine (KLB.out _ (Below.refl _ _).drew).mono ?_; rintro e wb ⟨rfl, hwb⟩; obtain rfl := hwb.symm) | (go_at_call 8; refine (KDT.out _ (Below.refl _ _).drew).mono ?_; rintro e wd ⟨a5, c5, rfl, hx5, hbd⟩; replace hbd := undrew hbd; obtain ⟨hx1, hx2⟩ := bcell hbd; have u1 := hbd.size; have u2 : w8.heap.size < wd.heap.size := (by omega); have u3 : w3.heap.size < wd.heap.size := (by omega)) | (go_at_call 12; refine (KSP.out _ _ _ (P8.out.below hbd) hx5).mono ?_; rintro e ws ⟨rfl, hbs⟩; obtain ⟨hx3, hx4⟩ := bcell hbs))
      go_wp2
      go_ret
      exact ⟨rfl, (B8.out.trans (hbd.mono B8.out.size)).trans (hbs.mono (Nat.le_trans B8.out.size hbd.size))⟩
  · rw [hL] at R3 P3 B3 HA HB ⊢
    simp only [List.length_nil, List.length_singleton] at R3 P3 B3 HA HB ⊢
    generalize hW : w3.alloc (.cells #[.int .i64 0, .slice va 1 vc] 28) = W at *
    obtain ⟨y0, y1, y2⟩ := cells2 R3.out
    have PF := PFA.out
    rw [hL] at PF
    have PF := Hid.mk' PF
    have HL := Hid.mk' hL
    have HE := Hid.mk' hb
    have XA := Hid.mk' (po_atD P3.out)
    have WX : Hid (WideX [dfX A B]) := Hid.mk' (wide_df A B lA2 lB2)
    have KLW : Hid (∀ v, Below W.heap.size W v → Calls Try.prog 9 #[.slice (some ⟨gA, 0, none⟩) A.length cA, .slice (some ⟨gB, 0, none⟩) B.length cB] v fun e w' => e = .returned (.bool false) ∧ w' = v) := Hid.mk' (fun v hv => by
      have := lwBytes_beq (some ⟨gA, 0, none⟩) (some ⟨gB, 0, none⟩) cA cB A B v (HA.out.below hv).at (HB.out.below hv).at
      rwa [HE.out] at this)
    have KPF : Hid (∀ v, Below W.heap.size W v → Calls Try.prog 10 #[.slice va 1 vc, .int .i64 (A.length : Int)] v fun e w' => e = .returned (.int .i64 0) ∧ Below v.heap.size v w') := Hid.mk' (fun v hv => by
      have := implPF_any va vc [dfX A B] (A.length : Int) v (XA.out.below hv) WX.out
      rwa [PF.out] at this)
    clear hL hb
    go_wp2_with fail
    clear hW
    go_region_held3 (fun w' => w'.cell? ⟨w3.heap.size, 1, none⟩ = some (.slice va 1 vc)) (simp [*])
      (first | (go_at_call 9; refine (KLW.out _ (Below.refl _ _).drew).mono ?_; rintro e w5 ⟨rfl, hw5⟩; obtain rfl := hw5.symm) | (go_at_call 10; refine (KPF.out _ (Below.refl _ _).drew).mono ?_; rintro e w6 ⟨rfl, hb6⟩; replace hb6 := undrew hb6; obtain ⟨hx1, hx2⟩ := bcell hb6))
    have B6 := Hid.mk' (B3.out.trans (hb6.mono B3.out.size))
    have R6 := Hid.mk' (rowB R3.out hb6)
    have P6 := Hid.mk' (P3.out.below hb6)
    have HA6 := Hid.mk' (HA.out.below hb6)
    have HB6 := Hid.mk' (HB.out.below hb6)
    clear R3 P3 B3 HA HB XA KLW KPF hb6 hx1 hx2 y0 y1 y2
    obtain ⟨y0, y1, y2⟩ := cells2 R6.out
    go_wp2
    go_loopw [6, 7] (fun i _ wr => ∃ k : Nat, k ≤ 1 ∧ i = .int .i64 k ∧ Below w6.heap.size w6 wr) (fun i _ _ => 1 - (intOf i).toNat)
    case atStart => exact ⟨0, by omega, rfl, Below.refl _ _⟩
    case round =>
      obtain ⟨k, hk, rfl, hbw⟩ := hrel
      by_cases hk1 : k = 1
      · subst hk1
        have R7 := Hid.mk' (rowB R6.out hbw)
        have P7 := Hid.mk' (P6.out.below hbw)
        have HA7 := Hid.mk' (HA6.out.below hbw)
        have HB7 := Hid.mk' (HB6.out.below hbw)
        have B7 := Hid.mk' (B6.out.trans (hbw.mono B6.out.size))
        have AP := APD.out
        rw [HL.out] at AP
        have AP := Hid.mk' AP
        clear hbw y0 y1 y2
        obtain ⟨y0, y1, y2⟩ := cells2 R7.out
        have KA := Hid.mk' (implAP_any gA 0 cA A va vc [dfX A B] wr HA7.out hcA (po_atD P7.out) WX.out (by omega))
        go_wp2_with fail
        refine KA.out.mono ?_
        rintro e w8 ⟨v8, rfl, o8, i8, hb8⟩
        rw [AP.out.1]
        obtain ⟨a8, c8, ev8, hat8⟩ := o8.len
        subst ev8
        have AL := Hid.mk' (apB_len A [dfX A B])
        have N8 := below_new w8 (.cells #[.int .i64 0, .slice a8 (apB A [dfX A B]).length c8] 35)
        have M8 := hb8.trans (N8.mono hb8.size)
        have R8 := Hid.mk' (rowB R7.out M8)
        have P8 := Hid.mk' (po_atD (P7.out.below M8))
        have HA8 := Hid.mk' (HA7.out.below M8)
        have HB8 := Hid.mk' (HB7.out.below M8)
        have B8 := Hid.mk' (B7.out.trans (M8.mono B7.out.size))
        have T8 := Hid.mk' (hat8.below N8)
        have Q8 := Hid.mk' (rowp2 w8 35 (.int .i64 0) (.slice a8 (apB A [dfX A B]).length c8))
        clear R7 P7 HA7 HB7 B7 KA o8 i8 hb8 N8 M8 hat8 y0 y1 y2
        have EQ := Hid.mk' AP.out.2
        generalize apB A [dfX A B] = r8 at *
        generalize hW8 : w8.alloc (.cells #[.int .i64 0, .slice a8 r8.length c8] 35) = W8 at *
        obtain ⟨y0, y1, y2⟩ := cells2 R8.out
        obtain ⟨x0, x1, x2⟩ := cells2 Q8.out
        have KLB : Hid (∀ v, Below W8.heap.size W8 v → Calls Try.prog 9 #[.slice a8 r8.length c8, .slice (some ⟨gB, 0, none⟩) B.length cB] v fun e w' => e = .returned (.bool true) ∧ w' = v) := Hid.mk' (fun v hv => by
          have := lwBytes_beq a8 (some ⟨gB, 0, none⟩) c8 cB r8 B v (T8.out.below hv) (HB8.out.below hv).at
          rwa [EQ.out] at this)
        have KDT : Hid (∀ v, Below W8.heap.size W8 v → Calls Try.prog 8 #[.slice (some ⟨gA, 0, none⟩) A.length cA, .slice (some ⟨gB, 0, none⟩) B.length cB] v fun e w' => ∃ a5 c5, e = .returned (.agg #[.int .i64 0, .slice a5 1 c5]) ∧ XsAt w' a5 [dfX A B] ∧ Below v.heap.size v w') := Hid.mk' (fun v hv => by
          refine (specDT_any gA 0 cA gB 0 cB A B v (HA8.out.below hv) (HB8.out.below hv) hcA hcB).mono ?_
          rintro e wd ⟨vd, rfl, hpd, hbd⟩
          rw [EC.out]
          rw [EL.out, HL.out] at hpd
          obtain ⟨a5, c5, e5, hx5⟩ := hpd.at
          subst e5
          exact ⟨a5, c5, rfl, hx5, hbd⟩)
        have KSP : Hid (∀ v a5 c5, XsAt v va [dfX A B] → XsAt v a5 [dfX A B] → Calls Try.prog 12 #[.slice va 1 vc, .slice a5 1 c5] v fun e w' => e = .returned (.bool true) ∧ Below v.heap.size v w') := Hid.mk' (fun v a5 c5 h1 h2 => by
          have := implSX_any va a5 vc c5 [dfX A B] [dfX A B] v h1 h2 (sz_df A B lA2 lB2) (sz_df A B lA2 lB2)
          rwa [sameXs_refl] at this)
        have hF := fPR1
        go_wp2_with fail
        clear hW8
        go_region_held3 (fun w' => w'.cell? ⟨w8.heap.size, 0, none⟩ = some (.int .i64 0) ∧ w'.cell? ⟨w8.heap.size, 1, none⟩ = some (.slice a8 r8.length c8) ∧ w'.cell? ⟨w3.heap.size, 1, none⟩ = some (.slice va 1 vc)) (simp [*])
          (first | (go_at_call 9; refine (KLB.out _ (Below.refl _ _).drew).mono ?_; rintro e wb ⟨rfl, hwb⟩; obtain rfl := hwb.symm) | (go_at_call 8; refine (KDT.out _ (Below.refl _ _).drew).mono ?_; rintro e wd ⟨a5, c5, rfl, hx5, hbd⟩; replace hbd := undrew hbd; obtain ⟨hx1, hx2⟩ := bcell hbd; have u1 := hbd.size; have u2 : w8.heap.size < wd.heap.size := (by omega); have u3 : w3.heap.size < wd.heap.size := (by omega)) | (go_at_call 12; refine (KSP.out _ _ _ (P8.out.below hbd) hx5).mono ?_; rintro e ws ⟨rfl, hbs⟩; obtain ⟨hx3, hx4⟩ := bcell hbs))
        go_wp2
        go_ret
        exact ⟨rfl, (B8.out.trans (hbd.mono B8.out.size)).trans (hbs.mono (Nat.le_trans B8.out.size hbd.size))⟩

      have hk0 : k = 0 := by omega
      subst hk0
      clear hk1
      have R7 := rowB R6.out hbw
      have HA7 := Hid.mk' (HA6.out.below hbw)
      have BW := Hid.mk' hbw
      have X7 := po_atD (P6.out.below hbw)
      clear y0 y1 y2 hbw
      obtain ⟨y0, y1, y2⟩ := cells2 R7
      have DX := Hid.mk' (df_vals A B)
      obtain ⟨n, t, P, hX⟩ : ∃ (n t : Nat) (P : List Int), dfX A B = ⟨(n : Int), (t : Int), P⟩ := ⟨_, _, _, rfl⟩
      have DX2 := DX.out n t P hX
      rcases X7 with h0 | ⟨bx, ox, evx, hbx, hcx⟩
      · exact absurd h0 (by simp)
      obtain ⟨q0, q1, pp, dp, q2, hpb⟩ := hcx 0 (by simp)
      have hxk : xkK [dfX A B] 0 = ⟨(n : Int), (t : Int), P⟩ := by rw [hX]; rfl
      rw [hxk] at q0 q1 q2 hpb
      simp only [Nat.zero_mul, Nat.add_zero] at q0 q1 q2
      subst evx
      have HPB := Hid.mk' (show BAt wr pp P from hpb)
      have D2 := Hid.mk' DX2
      have i01 : (0 : Int) < 1 := by decide
      clear R7 hcx hpb hxk hX DX DX2
      by_cases ht : t = 0
      · subst ht
        go_wp2
        go_roundw
        case rel => exact ⟨1, by omega, by go_num, BW.out.trans ((below_new _ _).mono BW.out.size)⟩
        case measure => simp [intOf]
      have ht2 : ((t : Int) == 0) = false := by rw [beq_eq_false_iff_ne]; omega
      by_cases hz : P.length = 0
      · have hz2 : ((P.length : Int) == 0) = true := by rw [beq_iff_eq]; omega
        go_wp2
        go_roundw
        case rel => exact ⟨1, by omega, by go_num, BW.out.trans ((below_new _ _).mono BW.out.size)⟩
        case measure => simp [intOf]
      have hz2 : ((P.length : Int) == 0) = false := by rw [beq_eq_false_iff_ne]; omega
      obtain ⟨hnt, hpl, hne⟩ := D2.out
      obtain ⟨f1, f2⟩ := hne (by omega) (by omega)
      rcases HPB.out with h0 | ⟨bp, op, evp, hbp, hcp⟩
      · exact absurd (by rw [h0]; rfl) hz
      have r0 := hcp 0 (by omega)
      have r1 := hcp (P.length - 1) (by omega)
      have s0 := HA7.out.2 n (by omega)
      have s1 := HA7.out.2 (n + t - 1) (by omega)
      rw [Nat.zero_add] at s0 s1
      rw [Nat.add_zero] at r0
      unfold bv at r0 r1 s0 s1
      subst evp
      have e1 : (A.getD n 0 == P.getD 0 0) = false := by rw [beq_eq_false_iff_ne]; exact f1
      have e2 : (A.getD (n + t - 1) 0 == P.getD (P.length - 1) 0) = false := by rw [beq_eq_false_iff_ne]; exact f2
      have w1 : IntKind.i64.wrap ((n : Int) + (t : Int)) = (n : Int) + (t : Int) := by rw [IntKind.wrap_i64]; omega
      have w2 : IntKind.i64.wrap ((n : Int) + (t : Int) - 1) = ((n + t - 1 : Nat) : Int) := by rw [IntKind.wrap_i64]; omega
      have w3' : IntKind.i64.wrap ((P.length : Int) - 1) = ((P.length - 1 : Nat) : Int) := by rw [IntKind.wrap_i64]; omega
      have b1 : decide ((A.length : Int) < (n : Int) + (t : Int)) = false := by rw [decide_eq_false_iff_not]; omega
      have b2 : (n : Int) < (A.length : Int) := by omega
      have b3 : ((n + t - 1 : Nat) : Int) < (A.length : Int) := by omega
      have b4 : ((P.length - 1 : Nat) : Int) < (P.length : Int) := by omega
      have b5 : 0 < P.length := by omega
      have b6 : ¬ (n : Int) < 0 := by omega
      have b7 : ¬ (t : Int) < 0 := by omega
      have b8 : (0 : Int) ≤ ((n + t - 1 : Nat) : Int) := by omega
      have b9 : (0 : Int) ≤ ((P.length - 1 : Nat) : Int) := by omega
      have b0 : (0 : Int) ≤ (n : Int) := by omega
      clear f1 f2 hne hcp D2 HPB
      generalize A.getD n 0 = u1 at *
      generalize A.getD (n + t - 1) 0 = u2 at *
      generalize P.getD 0 0 = u3 at *
      generalize P.getD (P.length - 1) 0 = u4 at *
      generalize hZ1 : n + t - 1 = Z1 at *
      generalize hZ2 : P.length - 1 = Z2 at *
      have NB := below_new wr (.cells #[.int .i64 (n : Int), .int .i64 (t : Int), .slice (some ⟨bp, op, none⟩) P.length dp] 33)
      obtain ⟨p0, p1, p2_, p3⟩ := cells3 (row3 wr 33 (.int .i64 (n : Int)) (.int .i64 (t : Int)) (.slice (some ⟨bp, op, none⟩) P.length dp))
      have lA7 := HA7.out.1
      replace s0 := (NB.cell lA7).trans s0
      replace s1 := (NB.cell lA7).trans s1
      replace r0 := (NB.cell hbp).trans r0
      replace r1 := (NB.cell hbp).trans r1
      have BV := Hid.mk' (BW.out.trans (NB.mono BW.out.size))
      clear NB
      generalize hV : wr.alloc (.cells #[.int .i64 (n : Int), .int .i64 (t : Int), .slice (some ⟨bp, op, none⟩) P.length dp] 33) = V at *
      go_wp2_with go_big_skip
      clear hV
      refine wp_region_held_drew (S := (fun v => v.cell? ⟨wr.heap.size, 0, none⟩ = some (.int .i64 (n : Int)) ∧ v.cell? ⟨wr.heap.size, 1, none⟩ = some (.int .i64 (t : Int)) ∧ v.cell? ⟨wr.heap.size, 2, none⟩ = some (.slice (some ⟨bp, op, none⟩) P.length dp) ∧ v.cell? ⟨gA, n, none⟩ = some (.int .u8 u1) ∧ v.cell? ⟨gA, Z1, none⟩ = some (.int .u8 u2) ∧ v.cell? ⟨bp, op, none⟩ = some (.int .u8 u3) ∧ v.cell? ⟨bp, op + Z2, none⟩ = some (.int .u8 u4))) (by kernel_rfl) (by simp [*]) (fun hHeld => ?_)
      refine wpAnyH_take (i := 0) (oi := ⟨_, _, _, _, _, _⟩) (v := ?_) rfl (by kernel_rfl) (by kernel_rfl) (by kernel_rfl) (fun _ _ _ h => h) (Or.inl ⟨by rfl, ?_⟩) (by assumption) ?_
      rotate_left
      · (intro w hSw; (try dsimp only at hSw); go_simp; (try with_reducible rfl))
      try simp only [Act.put, List.setIfInBounds_toArray, List.set_cons_zero, List.set_cons_succ]
      refine wpAnyH_take (i := 1) (oi := ⟨_, _, _, _, _, _⟩) (v := ?_) rfl (by kernel_rfl) (by kernel_rfl) (by kernel_rfl) (fun _ _ _ h => h) (Or.inl ⟨by rfl, ?_⟩) (by assumption) ?_
      rotate_left
      · (intro w hSw; (try dsimp only at hSw); go_simp; (try with_reducible rfl))
      try simp only [Act.put, List.setIfInBounds_toArray, List.set_cons_zero, List.set_cons_succ]
      refine wpAnyH_take (i := 2) (oi := ⟨_, _, _, _, _, _⟩) (v := ?_) rfl (by kernel_rfl) (by kernel_rfl) (by kernel_rfl) (fun _ _ _ h => h) (Or.inl ⟨by rfl, ?_⟩) (by assumption) ?_
      rotate_left
      · (intro w hSw; (try dsimp only at hSw); go_simp; (try with_reducible rfl))
      try simp only [Act.put, List.setIfInBounds_toArray, List.set_cons_zero, List.set_cons_succ]
      refine wpAnyH_take (i := 3) (oi := ⟨_, _, _, _, _, _⟩) (v := ?_) rfl (by kernel_rfl) (by kernel_rfl) (by kernel_rfl) (fun _ _ _ h => h) (Or.inl ⟨by rfl, ?_⟩) (by assumption) ?_
      rotate_left
      · (intro w hSw; (try dsimp only at hSw); go_simp; (try with_reducible rfl))
      try simp only [Act.put, List.setIfInBounds_toArray, List.set_cons_zero, List.set_cons_succ]
      refine wpAnyH_take (i := 4) (oi := ⟨_, _, _, _, _, _⟩) (v := ?_) rfl (by kernel_rfl) (by kernel_rfl) (by kernel_rfl) (fun _ _ _ h => h) (Or.inl ⟨by rfl, ?_⟩) (by assumption) ?_
      rotate_left
      · (intro w hSw; (try dsimp only at hSw); go_simp; (try with_reducible rfl))
      try simp only [Act.put, List.setIfInBounds_toArray, List.set_cons_zero, List.set_cons_succ]
      refine wpAnyH_take (i := 5) (oi := ⟨_, _, _, _, _, _⟩) (v := ?_) rfl (by kernel_rfl) (by kernel_rfl) (by kernel_rfl) (fun _ _ _ h => h) (Or.inl ⟨by rfl, ?_⟩) (by assumption) ?_
      rotate_left
      · (intro w hSw; (try dsimp only at hSw); go_simp; (try with_reducible rfl))
      try simp only [Act.put, List.setIfInBounds_toArray, List.set_cons_zero, List.set_cons_succ]
      refine wpAnyH_take (i := 6) (oi := ⟨_, _, _, _, _, _⟩) (v := ?_) rfl (by kernel_rfl) (by kernel_rfl) (by kernel_rfl) (fun _ _ _ h => h) (Or.inl ⟨by rfl, ?_⟩) (by assumption) ?_
      rotate_left
      · (intro w hSw; (try dsimp only at hSw); go_simp; (try with_reducible rfl))
      try simp only [Act.put, List.setIfInBounds_toArray, List.set_cons_zero, List.set_cons_succ]
      refine wpAnyH_take (i := 7) (oi := ⟨_, _, _, _, _, _⟩) (v := ?_) rfl (by kernel_rfl) (by kernel_rfl) (by kernel_rfl) (fun _ _ _ h => h) (Or.inl ⟨by rfl, ?_⟩) (by assumption) ?_
      rotate_left
      · (intro w hSw; (try dsimp only at hSw); go_simp; (try with_reducible rfl))
      try simp only [Act.put, List.setIfInBounds_toArray, List.set_cons_zero, List.set_cons_succ]
      refine wpAnyH_take (i := 8) (oi := ⟨_, _, _, _, _, _⟩) (v := ?_) rfl (by kernel_rfl) (by kernel_rfl) (by kernel_rfl) (fun _ _ _ h => h) (Or.inl ⟨by rfl, ?_⟩) (by assumption) ?_
      rotate_left
      · (intro w hSw; (try dsimp only at hSw); go_simp; (try with_reducible rfl))
      try simp only [Act.put, List.setIfInBounds_toArray, List.set_cons_zero, List.set_cons_succ]
      refine wpAnyH_take (i := 9) (oi := ⟨_, _, _, _, _, _⟩) (v := ?_) rfl (by kernel_rfl) (by kernel_rfl) (by kernel_rfl) (fun _ _ _ h => h) (Or.inl ⟨by rfl, ?_⟩) (by assumption) ?_
      rotate_left
      · (intro w hSw; (try dsimp only at hSw); go_simp; (try with_reducible rfl))
      try simp only [Act.put, List.setIfInBounds_toArray, List.set_cons_zero, List.set_cons_succ]
      refine wpAnyH_take (i := 10) (oi := ⟨_, _, _, _, _, _⟩) (v := ?_) rfl (by kernel_rfl) (by kernel_rfl) (by kernel_rfl) (fun _ _ _ h => h) (Or.inl ⟨by rfl, ?_⟩) (by assumption) ?_
      rotate_left
      · (intro w hSw; (try dsimp only at hSw); go_simp; (try with_reducible rfl))
      try simp only [Act.put, List.setIfInBounds_toArray, List.set_cons_zero, List.set_cons_succ]
      refine wpAnyH_take (i := 11) (oi := ⟨_, _, _, _, _, _⟩) (v := ?_) rfl (by kernel_rfl) (by kernel_rfl) (by kernel_rfl) (fun _ _ _ h => h) (Or.inl ⟨by rfl, ?_⟩) (by assumption) ?_
      rotate_left
      · (intro w hSw; (try dsimp only at hSw); go_simp; (try with_reducible rfl))
      try simp only [Act.put, List.setIfInBounds_toArray, List.set_cons_zero, List.set_cons_succ]
      refine wpAnyH_take (i := 12) (oi := ⟨_, _, _, _, _, _⟩) (v := ?_) rfl (by kernel_rfl) (by kernel_rfl) (by kernel_rfl) (fun _ _ _ h => h) (Or.inl ⟨by rfl, ?_⟩) (by assumption) ?_
      rotate_left
      · (intro w hSw; (try dsimp only at hSw); go_simp; (try with_reducible rfl))
      try simp only [Act.put, List.setIfInBounds_toArray, List.set_cons_zero, List.set_cons_succ]
      refine wpAnyH_take (i := 13) (oi := ⟨_, _, _, _, _, _⟩) (v := ?_) rfl (by kernel_rfl) (by kernel_rfl) (by kernel_rfl) (fun _ _ _ h => h) (Or.inl ⟨by rfl, ?_⟩) (by assumption) ?_
      rotate_left
      · (intro w hSw; (try dsimp only at hSw); go_simp; (try with_reducible rfl))
      try simp only [Act.put, List.setIfInBounds_toArray, List.set_cons_zero, List.set_cons_succ]
      refine wpAnyH_take (i := 14) (oi := ⟨_, _, _, _, _, _⟩) (v := ?_) rfl (by kernel_rfl) (by kernel_rfl) (by kernel_rfl) (fun _ _ _ h => h) (Or.inl ⟨by rfl, ?_⟩) (by assumption) ?_
      rotate_left
      · (intro w hSw; (try dsimp only at hSw); go_simp; (try with_reducible rfl))
      try simp only [Act.put, List.setIfInBounds_toArray, List.set_cons_zero, List.set_cons_succ]
      refine wpAnyH_take (i := 15) (oi := ⟨_, _, _, _, _, _⟩) (v := ?_) rfl (by kernel_rfl) (by kernel_rfl) (by kernel_rfl) (fun _ _ _ h => h) (Or.inl ⟨by rfl, ?_⟩) (by assumption) ?_
      rotate_left
      · (intro w hSw; (try dsimp only at hSw); go_simp; (try with_reducible rfl))
      try simp only [Act.put, List.setIfInBounds_toArray, List.set_cons_zero, List.set_cons_succ]
      refine wpAnyH_take (i := 16) (oi := ⟨_, _, _, _, _, _⟩) (v := ?_) rfl (by kernel_rfl) (by kernel_rfl) (by kernel_rfl) (fun _ _ _ h => h) (Or.inl ⟨by rfl, ?_⟩) (by assumption) ?_
      rotate_left
      · (intro w hSw; (try dsimp only at hSw); go_simp; (try with_reducible rfl))
      try simp only [Act.put, List.setIfInBounds_toArray, List.set_cons_zero, List.set_cons_succ]
      refine wpAnyH_take (i := 17) (oi := ⟨_, _, _, _, _, _⟩) (v := ?_) rfl (by kernel_rfl) (by kernel_rfl) (by kernel_rfl) (fun _ _ _ h => h) (Or.inl ⟨by rfl, ?_⟩) (by assumption) ?_
      rotate_left
      · (intro w hSw; (try dsimp only at hSw); go_simp; (try with_reducible rfl))
      try simp only [Act.put, List.setIfInBounds_toArray, List.set_cons_zero, List.set_cons_succ]
      refine wpAnyH_take (i := 18) (oi := ⟨_, _, _, _, _, _⟩) (v := ?_) rfl (by kernel_rfl) (by kernel_rfl) (by kernel_rfl) (fun _ _ _ h => h) (Or.inl ⟨by rfl, ?_⟩) (by assumption) ?_
      rotate_left
      · (intro w hSw; (try dsimp only at hSw); go_simp; (try with_reducible rfl))
      try simp only [Act.put, List.setIfInBounds_toArray, List.set_cons_zero, List.set_cons_succ]
      refine wpAnyH_take (i := 19) (oi := ⟨_, _, _, _, _, _⟩) (v := ?_) rfl (by kernel_rfl) (by kernel_rfl) (by kernel_rfl) (fun _ _ _ h => h) (Or.inl ⟨by rfl, ?_⟩) (by assumption) ?_
      rotate_left
      · (intro w hSw; (try dsimp only at hSw); go_simp; (try with_reducible rfl))
      try simp only [Act.put, List.setIfInBounds_toArray, List.set_cons_zero, List.set_cons_succ]
      refine wpAnyH_take (i := 20) (oi := ⟨_, _, _, _, _, _⟩) (v := ?_) rfl (by kernel_rfl) (by kernel_rfl) (by kernel_rfl) (fun _ _ _ h => h) (Or.inl ⟨by rfl, ?_⟩) (by assumption) ?_
      rotate_left
      · (intro w hSw; (try dsimp only at hSw); go_simp; (try with_reducible rfl))
      try simp only [Act.put, List.setIfInBounds_toArray, List.set_cons_zero, List.set_cons_succ]
      refine wpAnyH_take (i := 21) (oi := ⟨_, _, _, _, _, _⟩) (v := ?_) rfl (by kernel_rfl) (by kernel_rfl) (by kernel_rfl) (fun _ _ _ h => h) (Or.inl ⟨by rfl, ?_⟩) (by assumption) ?_
      rotate_left
      · (intro w hSw; (try dsimp only at hSw); go_simp; (try with_reducible rfl))
      try simp only [Act.put, List.setIfInBounds_toArray, List.set_cons_zero, List.set_cons_succ]
      refine wpAnyH_take (i := 22) (oi := ⟨_, _, _, _, _, _⟩) (v := ?_) rfl (by kernel_rfl) (by kernel_rfl) (by kernel_rfl) (fun _ _ _ h => h) (Or.inl ⟨by rfl, ?_⟩) (by assumption) ?_
      rotate_left
      · (intro w hSw; (try dsimp only at hSw); go_simp; (try with_reducible rfl))
      try simp only [Act.put, List.setIfInBounds_toArray, List.set_cons_zero, List.set_cons_succ]
      refine wpAnyH_take (i := 23) (oi := ⟨_, _, _, _, _, _⟩) (v := ?_) rfl (by kernel_rfl) (by kernel_rfl) (by kernel_rfl) (fun _ _ _ h => h) (Or.inl ⟨by rfl, ?_⟩) (by assumption) ?_
      rotate_left
      · (intro w hSw; (try dsimp only at hSw); go_simp; (try with_reducible rfl))
      try simp only [Act.put, List.setIfInBounds_toArray, List.set_cons_zero, List.set_cons_succ]
      refine wpAnyH_take (i := 24) (oi := ⟨_, _, _, _, _, _⟩) (v := ?_) rfl (by kernel_rfl) (by kernel_rfl) (by kernel_rfl) (fun _ _ _ h => h) (Or.inl ⟨by rfl, ?_⟩) (by assumption) ?_
      rotate_left
      · (intro w hSw; (try dsimp only at hSw); go_simp; (try with_reducible rfl))
      try simp only [Act.put, List.setIfInBounds_toArray, List.set_cons_zero, List.set_cons_succ]
      refine wpAnyH_take (i := 25) (oi := ⟨_, _, _, _, _, _⟩) (v := ?_) rfl (by kernel_rfl) (by kernel_rfl) (by kernel_rfl) (fun _ _ _ h => h) (Or.inl ⟨by rfl, ?_⟩) (by assumption) ?_
      rotate_left
      · (intro w hSw; (try dsimp only at hSw); go_simp; (try with_reducible rfl))
      try simp only [Act.put, List.setIfInBounds_toArray, List.set_cons_zero, List.set_cons_succ]
      refine wpAnyH_take (i := 26) (oi := ⟨_, _, _, _, _, _⟩) (v := ?_) rfl (by kernel_rfl) (by kernel_rfl) (by kernel_rfl) (fun _ _ _ h => h) (Or.inl ⟨by rfl, ?_⟩) (by assumption) ?_
      rotate_left
      · (intro w hSw; (try dsimp only at hSw); go_simp; (try with_reducible rfl))
      try simp only [Act.put, List.setIfInBounds_toArray, List.set_cons_zero, List.set_cons_succ]
      refine wpAnyH_take (i := 27) (oi := ⟨_, _, _, _, _, _⟩) (v := ?_) rfl (by kernel_rfl) (by kernel_rfl) (by kernel_rfl) (fun _ _ _ h => h) (Or.inl ⟨by rfl, ?_⟩) (by assumption) ?_
      rotate_left
      · (intro w hSw; (try dsimp only at hSw); go_simp; (try with_reducible rfl))
      try simp only [Act.put, List.setIfInBounds_toArray, List.set_cons_zero, List.set_cons_succ]
      refine wpAnyH_take (i := 28) (oi := ⟨_, _, _, _, _, _⟩) (v := ?_) rfl (by kernel_rfl) (by kernel_rfl) (by kernel_rfl) (fun _ _ _ h => h) (Or.inl ⟨by rfl, ?_⟩) (by assumption) ?_
      rotate_left
      · (intro w hSw; (try dsimp only at hSw); go_simp; (try with_reducible rfl))
      try simp only [Act.put, List.setIfInBounds_toArray, List.set_cons_zero, List.set_cons_succ]
      refine wpAnyH_take (i := 29) (oi := ⟨_, _, _, _, _, _⟩) (v := ?_) rfl (by kernel_rfl) (by kernel_rfl) (by kernel_rfl) (fun _ _ _ h => h) (Or.inl ⟨by rfl, ?_⟩) (by assumption) ?_
      rotate_left
      · (intro w hSw; (try dsimp only at hSw); go_simp; (try with_reducible rfl))
      try simp only [Act.put, List.setIfInBounds_toArray, List.set_cons_zero, List.set_cons_succ]
      refine wpAnyH_take (i := 30) (oi := ⟨_, _, _, _, _, _⟩) (v := ?_) rfl (by kernel_rfl) (by kernel_rfl) (by kernel_rfl) (fun _ _ _ h => h) (Or.inl ⟨by rfl, ?_⟩) (by assumption) ?_
      rotate_left
      · (intro w hSw; (try dsimp only at hSw); go_simp; (try with_reducible rfl))
      try simp only [Act.put, List.setIfInBounds_toArray, List.set_cons_zero, List.set_cons_succ]
      refine wpAnyH_take (i := 31) (oi := ⟨_, _, _, _, _, _⟩) (v := ?_) rfl (by kernel_rfl) (by kernel_rfl) (by kernel_rfl) (fun _ _ _ h => h) (Or.inl ⟨by rfl, ?_⟩) (by assumption) ?_
      rotate_left
      · (intro w hSw; (try dsimp only at hSw); go_simp; (try with_reducible rfl))
      try simp only [Act.put, List.setIfInBounds_toArray, List.set_cons_zero, List.set_cons_succ]
      refine wpAnyH_take (i := 32) (oi := ⟨_, _, _, _, _, _⟩) (v := ?_) rfl (by kernel_rfl) (by kernel_rfl) (by kernel_rfl) (fun _ _ _ h => h) (Or.inl ⟨by rfl, ?_⟩) (by assumption) ?_
      rotate_left
      · (intro w hSw; (try dsimp only at hSw); go_simp; (try with_reducible rfl))
      try simp only [Act.put, List.setIfInBounds_toArray, List.set_cons_zero, List.set_cons_succ]
      refine wpAnyH_take (i := 33) (oi := ⟨_, _, _, _, _, _⟩) (v := ?_) rfl (by kernel_rfl) (by kernel_rfl) (by kernel_rfl) (fun _ _ _ h => h) (Or.inl ⟨by rfl, ?_⟩) (by assumption) ?_
      rotate_left
      · (intro w hSw; (try dsimp only at hSw); go_simp; (try with_reducible rfl))
      try simp only [Act.put, List.setIfInBounds_toArray, List.set_cons_zero, List.set_cons_succ]
      refine wpAnyH_take (i := 34) (oi := ⟨_, _, _, _, _, _⟩) (v := ?_) rfl (by kernel_rfl) (by kernel_rfl) (by kernel_rfl) (fun _ _ _ h => h) (Or.inl ⟨by rfl, ?_⟩) (by assumption) ?_
      rotate_left
      · (intro w hSw; (try dsimp only at hSw); go_simp; (try with_reducible rfl))
      try simp only [Act.put, List.setIfInBounds_toArray, List.set_cons_zero, List.set_cons_succ]
      refine wpAnyH_take (i := 35) (oi := ⟨_, _, _, _, _, _⟩) (v := ?_) rfl (by kernel_rfl) (by kernel_rfl) (by kernel_rfl) (fun _ _ _ h => h) (Or.inl ⟨by rfl, ?_⟩) (by assumption) ?_
      rotate_left
      · (intro w hSw; (try dsimp only at hSw); go_simp; (try with_reducible rfl))
      try simp only [Act.put, List.setIfInBounds_toArray, List.set_cons_zero, List.set_cons_succ]
      refine wpAnyH_take (i := 36) (oi := ⟨_, _, _, _, _, _⟩) (v := ?_) rfl (by kernel_rfl) (by kernel_rfl) (by kernel_rfl) (fun _ _ _ h => h) (Or.inl ⟨by rfl, ?_⟩) (by assumption) ?_
      rotate_left
      · (intro w hSw; (try dsimp only at hSw); go_simp; (try with_reducible rfl))
      try simp only [Act.put, List.setIfInBounds_toArray, List.set_cons_zero, List.set_cons_succ]
      refine wpAnyH_take (i := 37) (oi := ⟨_, _, _, _, _, _⟩) (v := ?_) rfl (by kernel_rfl) (by kernel_rfl) (by kernel_rfl) (fun _ _ _ h => h) (Or.inl ⟨by rfl, ?_⟩) (by assumption) ?_
      rotate_left
      · (intro w hSw; (try dsimp only at hSw); go_simp; (try with_reducible rfl))
      try simp only [Act.put, List.setIfInBounds_toArray, List.set_cons_zero, List.set_cons_succ]
      refine wpAnyH_take (i := 38) (oi := ⟨_, _, _, _, _, _⟩) (v := ?_) rfl (by kernel_rfl) (by kernel_rfl) (by kernel_rfl) (fun _ _ _ h => h) (Or.inl ⟨by rfl, ?_⟩) (by assumption) ?_
      rotate_left
      · (intro w hSw; (try dsimp only at hSw); go_simp; (try with_reducible rfl))
      try simp only [Act.put, List.setIfInBounds_toArray, List.set_cons_zero, List.set_cons_succ]
      refine wpAnyH_take (i := 39) (oi := ⟨_, _, _, _, _, _⟩) (v := ?_) rfl (by kernel_rfl) (by kernel_rfl) (by kernel_rfl) (fun _ _ _ h => h) (Or.inl ⟨by rfl, ?_⟩) (by assumption) ?_
      rotate_left
      · (intro w hSw; (try dsimp only at hSw); go_simp; (try with_reducible rfl))
      try simp only [Act.put, List.setIfInBounds_toArray, List.set_cons_zero, List.set_cons_succ]
      refine wpAnyH_take (i := 40) (oi := ⟨_, _, _, _, _, _⟩) (v := ?_) rfl (by kernel_rfl) (by kernel_rfl) (by kernel_rfl) (fun _ _ _ h => h) (Or.inl ⟨by rfl, ?_⟩) (by assumption) ?_
      rotate_left
      · (intro w hSw; (try dsimp only at hSw); go_simp; (try with_reducible rfl))
      try simp only [Act.put, List.setIfInBounds_toArray, List.set_cons_zero, List.set_cons_succ]
      refine wpAnyH_take (i := 41) (oi := ⟨_, _, _, _, _, _⟩) (v := ?_) rfl (by kernel_rfl) (by kernel_rfl) (by kernel_rfl) (fun _ _ _ h => h) (Or.inl ⟨by rfl, ?_⟩) (by assumption) ?_
      rotate_left
      · (intro w hSw; (try dsimp only at hSw); go_simp; (try with_reducible rfl))
      try simp only [Act.put, List.setIfInBounds_toArray, List.set_cons_zero, List.set_cons_succ]
      refine wpAnyH_take (i := 42) (oi := ⟨_, _, _, _, _, _⟩) (v := ?_) rfl (by kernel_rfl) (by kernel_rfl) (by kernel_rfl) (fun _ _ _ h => h) (Or.inl ⟨by rfl, ?_⟩) (by assumption) ?_
      rotate_left
      · (intro w hSw; (try dsimp only at hSw); go_simp; (try with_reducible rfl))
      try simp only [Act.put, List.setIfInBounds_toArray, List.set_cons_zero, List.set_cons_succ]
      refine wpAnyH_take (i := 43) (oi := ⟨_, _, _, _, _, _⟩) (v := ?_) rfl (by kernel_rfl) (by kernel_rfl) (by kernel_rfl) (fun _ _ _ h => h) (Or.inl ⟨by rfl, ?_⟩) (by assumption) ?_
      rotate_left
      · (intro w hSw; (try dsimp only at hSw); go_simp; (try with_reducible rfl))
      try simp only [Act.put, List.setIfInBounds_toArray, List.set_cons_zero, List.set_cons_succ]
      refine wpAnyH_take (i := 44) (oi := ⟨_, _, _, _, _, _⟩) (v := ?_) rfl (by kernel_rfl) (by kernel_rfl) (by kernel_rfl) (fun _ _ _ h => h) (Or.inl ⟨by rfl, ?_⟩) (by assumption) ?_
      rotate_left
      · (intro w hSw; (try dsimp only at hSw); go_simp; (try with_reducible rfl))
      try simp only [Act.put, List.setIfInBounds_toArray, List.set_cons_zero, List.set_cons_succ]
      refine wpAnyH_take (i := 45) (oi := ⟨_, _, _, _, _, _⟩) (v := ?_) rfl (by kernel_rfl) (by kernel_rfl) (by kernel_rfl) (fun _ _ _ h => h) (Or.inl ⟨by rfl, ?_⟩) (by assumption) ?_
      rotate_left
      · (intro w hSw; (try dsimp only at hSw); go_simp; (try with_reducible rfl))
      try simp only [Act.put, List.setIfInBounds_toArray, List.set_cons_zero, List.set_cons_succ]
      refine wpAnyH_take (i := 46) (oi := ⟨_, _, _, _, _, _⟩) (v := ?_) rfl (by kernel_rfl) (by kernel_rfl) (by kernel_rfl) (fun _ _ _ h => h) (Or.inl ⟨by rfl, ?_⟩) (by assumption) ?_
      rotate_left
      · (intro w hSw; (try dsimp only at hSw); go_simp; (try with_reducible rfl))
      try simp only [Act.put, List.setIfInBounds_toArray, List.set_cons_zero, List.set_cons_succ]
      refine wpAnyH_take (i := 47) (oi := ⟨_, _, _, _, _, _⟩) (v := ?_) rfl (by kernel_rfl) (by kernel_rfl) (by kernel_rfl) (fun _ _ _ h => h) (Or.inl ⟨by rfl, ?_⟩) (by assumption) ?_
      rotate_left
      · (intro w hSw; (try dsimp only at hSw); go_simp; (try with_reducible rfl))
      try simp only [Act.put, List.setIfInBounds_toArray, List.set_cons_zero, List.set_cons_succ]
      refine wpAnyH_take (i := 48) (oi := ⟨_, _, _, _, _, _⟩) (v := ?_) rfl (by kernel_rfl) (by kernel_rfl) (by kernel_rfl) (fun _ _ _ h => h) (Or.inl ⟨by rfl, ?_⟩) (by assumption) ?_
      rotate_left
      · (intro w hSw; (try dsimp only at hSw); go_simp; (try with_reducible rfl))
      try simp only [Act.put, List.setIfInBounds_toArray, List.set_cons_zero, List.set_cons_succ]
      refine wpAnyH_take (i := 49) (oi := ⟨_, _, _, _, _, _⟩) (v := ?_) rfl (by kernel_rfl) (by kernel_rfl) (by kernel_rfl) (fun _ _ _ h => h) (Or.inl ⟨by rfl, ?_⟩) (by assumption) ?_
      rotate_left
      · (intro w hSw; (try dsimp only at hSw); go_simp; (try with_reducible rfl))
      try simp only [Act.put, List.setIfInBounds_toArray, List.set_cons_zero, List.set_cons_succ]
      refine wpAnyH_done (by kernel_rfl) ?_ _
      go_wp2
      go_roundw
      case rel => exact ⟨1, by omega, by go_num, BV.out.drew⟩
      case measure => simp [intOf]

end Go.Proofs.Ytmabfeckmklenaa
