/- Small facts for the law FnMemos. -/
import Derived.Test.YtlimgcmhidooaaaGreatDoorL34
import Derived.Test.YtlimgcmhidooaaaGreatDoorL36
import Derived.Test.YtlimgcmhidooaaaGreatDoorL30
import Derived.Test.YtlimgcmhidooaaaGreatDoorL29
import Derived.Test.YtlimgcmhidooaaaGreatDoorL25
import Derived.Deep.RegionHeld3
import Derived.BigGuard
set_option linter.unusedVariables false
set_option linter.unusedSimpArgs false
namespace Go.Proofs.YtlimgcmhidooaaaGreatDoor
open Go.RowKit

theorem fLR0 (c : Int) (v u : Value) (w : World) : (Instr.field 41 (.agg #[.int .i64 c, v, u]) 0).run Tryz.prog w = .ok (.int .i64 c) w := by kernel_rfl
theorem fLR1 (c : Int) (v : Option Addr) (n d : Nat) (u : Value) (w : World) : (Instr.field 41 (.agg #[.int .i64 c, .slice v n d, u]) 1).run Tryz.prog w = .ok (.slice v n d) w := by kernel_rfl
theorem fMR0 (c v st : Int) (a b d e : Value) (w : World) : (Instr.field 50 (.agg #[.int .i64 c, .int .i64 v, a, .int .i64 st, b, d, e]) 0).run Tryz.prog w = .ok (.int .i64 c) w := by kernel_rfl
theorem fMR2 (c v st : Int) (a b d e : Value) (w : World) : (Instr.field 50 (.agg #[.int .i64 c, .int .i64 v, a, .int .i64 st, b, d, e]) 2).run Tryz.prog w = .ok (.agg #[a, .int .i64 st, b, d, e]) w := by kernel_rfl

def FtP (T : List TK) (H : List Int) (w : World) (e : Ending) (w' : World) : Prop :=
  ∃ ta tc ha hc us rs bl bh lo, e = .returned (.agg #[.int .i64 0, .slice ta T.length tc, .slice ha H.length hc]) ∧ w.heap.size ≤ lo ∧ TP lo w' (.slice ta T.length tc) T us rs bl bh ∧ BAt w' ha H ∧ (∀ b o, ha = some ⟨b, o, none⟩ → w.heap.size ≤ b) ∧ Below w.heap.size w w'

theorem FfP.ft {h0 d : List Int} {w : World} {e : Ending} {w' : World} (h : FfP h0 d w e w') : FtP (allX [] h0 d).1 (allX [] h0 d).2 w e w' := by
  obtain ⟨hv, tv, us, rs, bl, bh, lo, g, rfl, hlo, hx, hb⟩ := h
  obtain ⟨ta, tc, e1, _⟩ := hx.tp.tsAt
  subst e1
  obtain ⟨o, ho⟩ := OB.of_own hx.held
  obtain ⟨a, c, rfl, hba⟩ := o.len
  exact ⟨ta, tc, a, c, us, rs, bl, bh, lo, rfl, hlo, hx.tp, hba, fun b o e => by subst e; have := ho b rfl; omega, hb⟩

theorem tp_put {lo g : Nat} {w U : World} {tv : Value} {ts : List TK} {us : List Value} {rs : Nat → List Value} {bl bh : Nat → Nat} (h : TP lo w tv ts us rs bl bh) (hk : KeptIn g (g + 1) w U) (hg : g < lo ∨ w.heap.size ≤ g) : TP lo U tv ts us rs bl bh :=
  h.keep hk.size (fun k h1 h2 => hk.block k h2 (by omega))

theorem tp_at {lo : Nat} {w : World} {a : Option Addr} {n c : Nat} {ts : List TK} {us : List Value} {rs : Nat → List Value} {bl bh : Nat → Nat} (h : TP lo w (.slice a n c) ts us rs bl bh) : TsAt w a ts := by
  obtain ⟨a', c', e, ht⟩ := h.tsAt
  cases e
  exact ht

theorem fits_le (d : List Int) (h : d.length ≤ 240) : ((lexX d).length : Int) + tssz (lexX d) ≤ 1048576 := by
  have := lex_fits d
  unfold wei at this
  omega

theorem lwBytes_beqE (a a' : Option Addr) (c c' : Nat) (l m : List Int) (w : World) (h : BAt w a l) (h' : BAt w a' m) :
    Calls Tryz.prog 34 #[.slice a l.length c, .slice a' m.length c'] w fun e w' => e = .returned (.bool (beqB l m)) ∧ w' = w := by
  have c1 := conv_bytesT c h
  have c2 := conv_bytesT c' h'
  clear h h'
  go_enter Tryz.func34, Tryz.ntmps34
  go_wp2
  go_ret
  exact ⟨rfl, rfl⟩

theorem drop_fits (d : List Int) (n : Nat) (h : d.length ≤ 240) : (((allX [] [] d).1.drop n).length : Int) + tssz ((allX [] [] d).1.drop n) ≤ 1048576 := by
  have h1 := all_fits d [] []
  have e : wei [] = 0 := rfl
  have h2 : wei ((allX [] [] d).1.take n ++ (allX [] [] d).1.drop n) = wei ((allX [] [] d).1.take n) + wei ((allX [] [] d).1.drop n) := wei_app _ _
  rw [List.take_append_drop] at h2
  unfold wei at *
  simp at h1
  omega

theorem bat_ltE {w : World} {a : Option Addr} {l : List Int} {b o : Nat} (h : BAt w a l) (e : a = some ⟨b, o, none⟩) (hl : l ≠ []) : b < w.heap.size := by
  rcases h with h | ⟨b1, o1, e1, hs, -⟩
  · exact absurd h hl
  · rw [e] at e1; cases e1; exact hs
theorem bat_rowE {w : World} {a : Option Addr} {l : List Int} {g : Nat} (h : BAt w a l) (hg : ∀ b o, a = some ⟨b, o, none⟩ → l ≠ [] → b ≠ g) (cs : Array Value) : BAt (w.setRow g cs) a l := by
  by_cases hl : l = []
  · exact .inl hl
  rcases h with h | ⟨b, o, e, hs, hc⟩
  · exact absurd h hl
  · have hk := RowA.keptRow w g cs
    exact .inr ⟨b, o, e, Nat.lt_of_lt_of_le hs hk.size, fun k h' => (World.cell?_of_block (hk.block b hs (by have := hg b o e hl; omega))).trans (hc k h')⟩

end Go.Proofs.YtlimgcmhidooaaaGreatDoor

namespace Go.Proofs.YtlimgcmhidooaaaGreatDoor
open Go.RowKit

set_option maxRecDepth 100000 in
set_option maxHeartbeats 8000000 in
theorem lawFM_any (q : Option Addr) (c' : Nat) (l : List Int) (tp : TypeId) (pv : Value) (w : World) (hE : Env w.heap.size tp pv w) (hd : BAt w q l) (hu : Byt l) (hl : (l.length : Int) ≤ 9223372036854775807) :
    Calls Tryz.prog 5 #[.slice q l.length c'] w fun e w' => e = .returned (.bool true) ∧ Below w.heap.size w w' := by
  have K0 := Hid.mk' (lwBigF_any q c' l.length w)
  by_cases g1 : (1048576 : Int) < (l.length : Int)
  · go_enter Tryz.func5, Tryz.ntmps5
    go_wp2_with fail
    refine K0.out.mono ?_
    rintro e w1 ⟨rfl, hw1⟩
    obtain rfl := hw1.symm
    rw [decide_eq_true g1]
    go_wp2
    go_ret
    exact ⟨rfl, Below.refl _ _⟩
  have ll : (l.length : Int) ≤ 1048576 := by omega
  have HE := Hid.mk' hE
  have KA := Hid.mk' (drawNM_any q c' l w hd hu ll)
  have KB := Hid.mk' (fun W (hW : Below w.heap.size w W) => drawTO_any q c' l W (hd.below hW) hu ll)
  clear hd hu hE
  go_enter Tryz.func5, Tryz.ntmps5
  go_wp2_with fail
  refine K0.out.mono ?_
  rintro e w1 ⟨rfl, hw1⟩
  obtain rfl := hw1.symm
  rw [decide_eq_false (show ¬ (1048576 : Int) < (l.length : Int) by omega)]
  clear K0 g1 hw1
  go_wp2_with fail
  refine KA.out.mono ?_
  rintro e w2 ⟨D, gd, cd, S, rfl, hD, hDc, hDl, hDb, hS0, hS1, hb2⟩
  have BB := Hid.mk' hb2
  have HD := Hid.mk' hD
  have HDB := Hid.mk' hDb
  have EN : Hid (∀ V, Below w2.heap.size w2 V → Env V.heap.size tp pv V) := Hid.mk' (fun V hV => (HE.out.keep (BB.out.trans (hV.mono BB.out.size))).up (Nat.le_trans BB.out.size hV.size) (Nat.le_refl _))
  have KN : Hid (∀ V, Below w2.heap.size w2 V → Calls Tryz.prog 25 #[.slice (some ⟨gd, 0, none⟩) D.length cd, .int .i64 S] V fun e w' => ∃ tau vd tv hv cv us rs bl bh hvs, e = .returned (.agg #[.int .i64 (askC D S), .int .i64 (rR D S), vd, .int .i64 (rM D S).st, tv, hv, cv]) ∧ GM V.heap.size w'.heap.size tau (rM D S) vd tv hv cv us rs bl bh hvs w' ∧ Below V.heap.size V w') := Hid.mk' (fun V hV => implNM_gm tp pv D S (some ⟨gd, 0, none⟩) cd V (EN.out V hV) (HD.out.below hV).at hDc HDB.out (by omega))
  have KSN : Hid (∀ V, Below w2.heap.size w2 V → Calls Tryz.prog 33 #[.slice (some ⟨gd, 0, none⟩) D.length cd, .int .i64 S] V fun e w' => ∃ a t u c ca ct cu cc, e = .returned (.agg #[.int .i64 (askC D S), .int .i64 (rR D S), .slice a (rM D S).dt.length ca, .int .i64 (rM D S).st, .slice t (rM D S).tk.length ct, .slice u (rM D S).hd.length cu, .slice c (rM D S).cs.length cc]) ∧ MAt w' a t u c (rM D S) ∧ Below V.heap.size V w') := Hid.mk' (fun V hV => specNM_any D S (some ⟨gd, 0, none⟩) cd V (HD.out.below hV).at HDB.out (by omega))
  clear hD hDb hb2 KA
  go_wp2_with fail
  refine (KN.out w2 (Below.refl _ _)).mono ?_
  rintro e w3 ⟨tau, vd, tv, hv, cv, us, rs, bl, bh, hvs, rfl, hgm, hb3⟩
  obtain ⟨y1, y2, y3, y4, j1, j2, j3, j4, rfl, rfl, rfl, rfl, hma⟩ := hgm.at
  have N3 := below_new w3 (.cells #[.int .i64 (askC D S), .int .i64 (rR D S), .slice y1 (rM D S).dt.length j1, .int .i64 (rM D S).st, .slice y2 (rM D S).tk.length j2, .slice y3 (rM D S).hd.length j3, .slice y4 (rM D S).cs.length j4] 50)
  have HB := Hid.mk' (hb3.trans (N3.mono hb3.size))
  have RN := Hid.mk' (RowA.new w3 50 #[.int .i64 (askC D S), .int .i64 (rR D S), .slice y1 (rM D S).dt.length j1, .int .i64 (rM D S).st, .slice y2 (rM D S).tk.length j2, .slice y3 (rM D S).hd.length j3, .slice y4 (rM D S).cs.length j4])
  have HD := Hid.mk' (HD.out.below HB.out)
  have HM := Hid.mk' (hma.below N3)
  have HC1 : Hid ((rM D S).dt.length ≤ j1) := Hid.mk' (by
    rcases hgm.d with ⟨h1, h2⟩ | ⟨g, cap, cn, f, h1, hca, _⟩
    · rw [h2]; exact Nat.zero_le _
    · cases h1; exact hca)
  have HY2 : Hid ((y2 = none ∧ (rM D S).tk.length = 0 ∧ j2 = 0) ∨ ∃ b, y2 = some ⟨b, 0, none⟩ ∧ (rM D S).tk.length ≤ j2) := Hid.mk' (by
    obtain ⟨_, h | ⟨g, cap, cur, h1, hb, hg, hn, _⟩⟩ := hgm.t.row
    · obtain ⟨h1, h2⟩ := h
      simp only [Value.slice.injEq] at h1
      exact .inl h1
    · simp only [Value.slice.injEq] at h1
      obtain ⟨e1, _, e3⟩ := h1
      exact .inr ⟨g, e1, by omega⟩)
  clear hb3 N3 KN hgm hma
  generalize hW3 : w3.alloc (.cells #[.int .i64 (askC D S), .int .i64 (rR D S), .slice y1 (rM D S).dt.length j1, .int .i64 (rM D S).st, .slice y2 (rM D S).tk.length j2, .slice y3 (rM D S).hd.length j3, .slice y4 (rM D S).cs.length j4] 50) = W3 at *
  go_wp2_with fail
  clear hW3
  refine (KB.out W3 (BB.out.trans (HB.out.mono BB.out.size))).mono ?_
  rintro e w4 ⟨m1, a1, t1, u1, c1, ca1, ct1, cu1, cc1, rfl, hM1, hG1, hb4⟩
  have N4 := below_new w4 (.cells #[.slice a1 m1.dt.length ca1, .int .i64 m1.st, .slice t1 m1.tk.length ct1, .slice u1 m1.hd.length cu1, .slice c1 m1.cs.length cc1] 27)
  have M4 := hb4.trans (N4.mono hb4.size)
  have HB := Hid.mk' (HB.out.trans (M4.mono HB.out.size))
  have RN := Hid.mk' (RN.out.below M4)
  have HD := Hid.mk' (HD.out.below M4)
  have HM := Hid.mk' (HM.out.below M4)
  have R1 := Hid.mk' (RowA.new w4 27 #[.slice a1 m1.dt.length ca1, .int .i64 m1.st, .slice t1 m1.tk.length ct1, .slice u1 m1.hd.length cu1, .slice c1 m1.cs.length cc1])
  have DM1 := Hid.mk' (hM1.below N4)
  have G1 := Hid.mk' hG1
  clear hM1 hG1 hb4 N4 M4 KB
  generalize hW4 : w4.alloc (.cells #[.slice a1 m1.dt.length ca1, .int .i64 m1.st, .slice t1 m1.tk.length ct1, .slice u1 m1.hd.length cu1, .slice c1 m1.cs.length cc1] 27) = W4 at *
  have hz1 : (msz m1 : Int) ≤ 1048576 := by have := G1.out.sz; omega
  have EN4 : Hid (∀ V, Below W4.heap.size W4 V → Env V.heap.size tp pv V) := Hid.mk' (fun V hV => EN.out V (HB.out.trans (hV.mono HB.out.size)))
  have KT : Hid (∀ V, Below W4.heap.size W4 V → Calls Tryz.prog 27 #[.agg #[.slice a1 m1.dt.length ca1, .int .i64 m1.st, .slice t1 m1.tk.length ct1, .slice u1 m1.hd.length cu1, .slice c1 m1.cs.length cc1]] V fun e w' => ∃ v d, e = .returned (.agg #[.int .i64 (memF m1), .slice v (toL m1).length d, .slice none 0 0]) ∧ TsAt w' v (toL m1) ∧ Below V.heap.size V w') := Hid.mk' (fun V hV => (implTO_any tp pv m1 a1 t1 u1 c1 ca1 ct1 cu1 cc1 V (EN4.out V hV) (DM1.out.below hV).now DM1.out.ka G1.out.ub G1.out.hb G1.out.tb hz1).mono (fun e w' h => by
    rcases h with ⟨h0, rfl, hb⟩ | ⟨h0, tv, us, rs, bl, bh, rfl, ht, hb⟩
    · have h1 : toL m1 = [] := by unfold toL; rw [if_neg h0]
      rw [h1]
      exact ⟨none, 0, rfl, .inl rfl, hb⟩
    · obtain ⟨v, d, rfl, ha⟩ := ht.tsAt
      rw [h0]
      exact ⟨v, d, rfl, ha, hb⟩))
  have KTS : Hid (∀ V, Below W4.heap.size W4 V → Calls Tryz.prog 28 #[.agg #[.slice a1 m1.dt.length ca1, .int .i64 m1.st, .slice t1 m1.tk.length ct1, .slice u1 m1.hd.length cu1, .slice c1 m1.cs.length cc1]] V fun e w' => ∃ v d, e = .returned (.agg #[.int .i64 (memF m1), .slice v (toL m1).length d, .slice none 0 0]) ∧ Below V.heap.size V w') := Hid.mk' (fun V hV => (specTO_any m1 a1 t1 u1 c1 ca1 ct1 cu1 cc1 V (DM1.out.below hV).now G1.out.ub G1.out.hb G1.out.tb hz1).mono (fun e w' h => by
    obtain ⟨v, d, rfl, _, hb⟩ := h
    exact ⟨v, d, rfl, hb⟩))
  have KF : Hid (∀ V, Below W4.heap.size W4 V → Calls Tryz.prog 31 #[.agg #[.slice a1 m1.dt.length ca1, .int .i64 m1.st, .slice t1 m1.tk.length ct1, .slice u1 m1.hd.length cu1, .slice c1 m1.cs.length cc1]] V fun e w' => e = .returned (.int .i64 (memF m1)) ∧ Below V.heap.size V w') := Hid.mk' (fun V hV => implMF_any tp pv m1 a1 t1 u1 c1 ca1 ct1 cu1 cc1 V (EN4.out V hV) (DM1.out.below hV).now DM1.out.ka G1.out.ub hz1)
  have KFS : Hid (∀ V, Below W4.heap.size W4 V → Calls Tryz.prog 32 #[.agg #[.slice a1 m1.dt.length ca1, .int .i64 m1.st, .slice t1 m1.tk.length ct1, .slice u1 m1.hd.length cu1, .slice c1 m1.cs.length cc1]] V fun e w' => e = .returned (.int .i64 (memF m1)) ∧ Below V.heap.size V w') := Hid.mk' (fun V hV => specMF_any m1 a1 t1 u1 c1 ca1 ct1 cu1 cc1 V (DM1.out.below hV).now G1.out.ub hz1)
  have TL1 := Hid.mk' (fun (h : memF m1 = 0) => And.intro (toL_lex G1.out.ub G1.out.tb G1.out.hb h) (memF_ok h).1)
  obtain ⟨F, hF⟩ : ∃ F, memF m1 = F := ⟨_, rfl⟩
  rw [hF] at KT KTS KF KFS TL1
  clear hF
  have x0 := R1.out.cell 0 _ rfl
  have x1 := R1.out.cell 1 _ rfl
  have x2 := R1.out.cell 2 _ rfl
  have x3 := R1.out.cell 3 _ rfl
  have x4 := R1.out.cell 4 _ rfl
  go_wp2_with fail
  clear hW4
  refine (KT.out W4 (Below.refl _ _)).mono ?_
  rintro e w5 ⟨v5, d5, rfl, h5, hb5⟩
  have N5 := below_new w5 (.cells #[.int .i64 F, .slice v5 (toL m1).length d5, .slice none 0 0] 41)
  have H5 := Hid.mk' (hb5.trans (N5.mono hb5.size))
  have HB := Hid.mk' (HB.out.trans (H5.out.mono HB.out.size))
  have RN := Hid.mk' (RN.out.below H5.out)
  have HD := Hid.mk' (HD.out.below H5.out)
  have HM := Hid.mk' (HM.out.below H5.out)
  have R1 := Hid.mk' (R1.out.below H5.out)
  have RT := Hid.mk' (RowA.new w5 41 #[.int .i64 F, .slice v5 (toL m1).length d5, .slice none 0 0])
  have HT5 := Hid.mk' (h5.below N5)
  have DM5 := Hid.mk' (DM1.out.below H5.out)
  clear hb5 N5 h5 KT x0 x1 x2 x3 x4
  go_wp2_with (first | ((with_reducible refine wpList_store_row ?_ 41 (.tmp 7) (.tmp 24) ?_ w5.heap.size #[.int .i64 F, .slice v5 (toL m1).length d5, .slice none 0 0] ?_ ?_ 41 _ (Deep.blk_alloc_new w5 _) ?_ ?_ ?_ ?_); rfl; rfl; rfl; rfl; kernel_rfl; rfl; kernel_rfl; rw [alloc_setRow]) | fail)
  generalize hW5 : w5.alloc (.cells #[.int .i64 F, .slice v5 (toL m1).length d5, .slice none 0 0] 41) = W5 at *
  clear hW5
  have x0 := R1.out.cell 0 _ rfl
  have x1 := R1.out.cell 1 _ rfl
  have x2 := R1.out.cell 2 _ rfl
  have x3 := R1.out.cell 3 _ rfl
  have x4 := R1.out.cell 4 _ rfl
  have z0 : W5.cell? ⟨w5.heap.size, 0, none⟩ = some (.int .i64 F) := RT.out.cell 0 _ rfl
  have b00 : Below W5.heap.size W5 W5 := Below.refl _ _
  have KTS5 : Hid (∀ V, Below W5.heap.size W5 V → Calls Tryz.prog 28 #[.agg #[.slice a1 m1.dt.length ca1, .int .i64 m1.st, .slice t1 m1.tk.length ct1, .slice u1 m1.hd.length cu1, .slice c1 m1.cs.length cc1]] V fun e w' => ∃ v d, e = .returned (.agg #[.int .i64 F, .slice v (toL m1).length d, .slice none 0 0]) ∧ Below W5.heap.size W5 w') := Hid.mk' (fun V hV => (KTS.out V (H5.out.trans (hV.mono H5.out.size))).mono (fun e w' h => by
    obtain ⟨v, d, rfl, hb⟩ := h
    exact ⟨v, d, rfl, hV.trans (hb.mono hV.size)⟩))
  have KF5 : Hid (∀ V, Below W5.heap.size W5 V → Calls Tryz.prog 31 #[.agg #[.slice a1 m1.dt.length ca1, .int .i64 m1.st, .slice t1 m1.tk.length ct1, .slice u1 m1.hd.length cu1, .slice c1 m1.cs.length cc1]] V fun e w' => e = .returned (.int .i64 F) ∧ Below W5.heap.size W5 w') := Hid.mk' (fun V hV => (KF.out V (H5.out.trans (hV.mono H5.out.size))).mono (fun e w' h => ⟨h.1, hV.trans (h.2.mono hV.size)⟩))
  have KFS5 : Hid (∀ V, Below W5.heap.size W5 V → Calls Tryz.prog 32 #[.agg #[.slice a1 m1.dt.length ca1, .int .i64 m1.st, .slice t1 m1.tk.length ct1, .slice u1 m1.hd.length cu1, .slice c1 m1.cs.length cc1]] V fun e w' => e = .returned (.int .i64 F) ∧ Below W5.heap.size W5 w') := Hid.mk' (fun V hV => (KFS.out V (H5.out.trans (hV.mono H5.out.size))).mono (fun e w' h => ⟨h.1, hV.trans (h.2.mono hV.size)⟩))
  clear KTS KF KFS
  have fl0 := fLR0
  have s4 : w4.heap.size < W5.heap.size := R1.out.lt
  have s5 : w5.heap.size < W5.heap.size := RT.out.lt
  have z1 : W5.cell? ⟨w5.heap.size, 1, none⟩ = some (.slice v5 (toL m1).length d5) := RT.out.cell 1 _ rfl
  have HCE : Hid (∀ V, Below W5.heap.size W5 V → (fun w' => w'.cell? ⟨w4.heap.size, 0, none⟩ = some (.slice a1 m1.dt.length ca1) ∧ w'.cell? ⟨w4.heap.size, 1, none⟩ = some (.int .i64 m1.st) ∧ w'.cell? ⟨w4.heap.size, 2, none⟩ = some (.slice t1 m1.tk.length ct1) ∧ w'.cell? ⟨w4.heap.size, 3, none⟩ = some (.slice u1 m1.hd.length cu1) ∧ w'.cell? ⟨w4.heap.size, 4, none⟩ = some (.slice c1 m1.cs.length cc1) ∧ w'.cell? ⟨w5.heap.size, 0, none⟩ = some (.int .i64 F) ∧ w'.cell? ⟨w5.heap.size, 1, none⟩ = some (.slice v5 (toL m1).length d5)) V) := Hid.mk' (fun V hV => ⟨(R1.out.below hV).cell 0 _ rfl, (R1.out.below hV).cell 1 _ rfl, (R1.out.below hV).cell 2 _ rfl, (R1.out.below hV).cell 3 _ rfl, (R1.out.below hV).cell 4 _ rfl, (RT.out.below hV).cell 0 _ rfl, (RT.out.below hV).cell 1 _ rfl⟩)
  have KLT5 : Hid (F = 0 → ∀ V, Below W5.heap.size W5 V → Calls Tryz.prog 30 #[.slice a1 m1.dt.length ca1] V fun e w' => ∃ v d, e = .returned (.agg #[.int .i64 0, .slice v (toL m1).length d, .slice none 0 0]) ∧ TsAt w' v (toL m1) ∧ Below W5.heap.size W5 w') := Hid.mk' (fun hF V hV => by
    obtain ⟨e1, e2⟩ := TL1.out hF
    have K := implLT_any tp pv m1.dt a1 ca1 V (EN4.out V (H5.out.trans (hV.mono H5.out.size))) (DM5.out.below hV).now.1 G1.out.ub (by omega)
    refine K.mono (fun e w' h => ?_)
    rcases h with ⟨h, _⟩ | ⟨_, tv, us, rs, bl, bh, rfl, ht, hb⟩
    · omega
    · obtain ⟨v, d, rfl, ha⟩ := ht.tsAt
      rw [e1]
      exact ⟨v, d, rfl, ha, hV.trans (hb.mono hV.size)⟩)
  have KSM5 : Hid (F = 0 → ∀ V v d, Below W5.heap.size W5 V → TsAt V v (toL m1) → Calls Tryz.prog 29 #[.slice v5 (toL m1).length d5, .slice v (toL m1).length d] V fun e w' => e = .returned (.bool true) ∧ Below W5.heap.size W5 w') := Hid.mk' (fun hF V v d hV ha => by
    obtain ⟨e1, e2⟩ := TL1.out hF
    have hf := fits_le m1.dt e2
    rw [← e1] at hf
    refine (implSameT_any v5 v d5 d (toL m1) (toL m1) V (HT5.out.below hV) ha hf hf).mono (fun e w' h => ⟨?_, hV.trans (h.2.mono hV.size)⟩)
    rw [h.1, sameTs_refl])
  have fl1 := fLR1
  by_cases hc : F = 0
  rotate_left
  have hne : (F == 0) = false := beq_eq_false_iff_ne.2 hc
  have hff : (F != F) = false := by simp
  refine wp_region_held_drew (S := fun w' => w'.cell? ⟨w4.heap.size, 0, none⟩ = some (.slice a1 m1.dt.length ca1) ∧ w'.cell? ⟨w4.heap.size, 1, none⟩ = some (.int .i64 m1.st) ∧ w'.cell? ⟨w4.heap.size, 2, none⟩ = some (.slice t1 m1.tk.length ct1) ∧ w'.cell? ⟨w4.heap.size, 3, none⟩ = some (.slice u1 m1.hd.length cu1) ∧ w'.cell? ⟨w4.heap.size, 4, none⟩ = some (.slice c1 m1.cs.length cc1) ∧ w'.cell? ⟨w5.heap.size, 0, none⟩ = some (.int .i64 F) ∧ w'.cell? ⟨w5.heap.size, 1, none⟩ = some (.slice v5 (toL m1).length d5)) (by kernel_rfl) (HCE.out _ (Below.refl _ _).drew) (fun hHeld => ?_)
  refine tkY 0 ?_
  refine tkY 1 ?_
  refine tkY 2 ?_
  refine wpAnyH_ready (rs := [3]) (by kernel_rfl) (by simp) ?_
  refine AllReadyH.cons (o := ⟨_, _, _, _, _, _⟩) rfl (fun K hK => ?_) AllReadyH.nil
  go_simp
  refine (KTS5.out _ (by first | assumption | exact Below.drew (by assumption))).mono ?_
  rintro e wA ⟨vA, dA, rfl, hbwA⟩
  refine hK.out _ _ (HCE.out _ hbwA) (fun hHeld => ?_)
  clear hK K
  try simp only [Act.put, zA, zB, zC]
  refine tkY 4 ?_
  refine tkY 5 ?_
  refine tkY 6 ?_
  refine tkY 7 ?_
  refine tkY 8 ?_
  refine tkY 9 ?_
  refine tkY 10 ?_
  refine tkU 11 ?_
  refine tkU 12 ?_
  refine tkU 13 ?_
  refine tkU 14 ?_
  refine tkU 15 ?_
  refine tkU 16 ?_
  refine tkU 17 ?_
  refine tkU 18 ?_
  refine tkY 19 ?_
  refine tkY 20 ?_
  refine tkY 21 ?_
  refine tkY 22 ?_
  refine tkY 24 ?_
  refine wpAnyH_ready (rs := [23]) (by kernel_rfl) (by simp) ?_
  refine AllReadyH.cons (o := ⟨_, _, _, _, _, _⟩) rfl (fun K hK => ?_) AllReadyH.nil
  go_simp
  refine (KF5.out _ (by first | assumption | exact Below.drew (by assumption))).mono ?_
  rintro e wB ⟨rfl, hbwB⟩
  refine hK.out _ _ (HCE.out _ hbwB) (fun hHeld => ?_)
  clear hK K
  try simp only [Act.put, zA, zB, zC]
  refine wpAnyH_ready (rs := [25]) (by kernel_rfl) (by simp) ?_
  refine AllReadyH.cons (o := ⟨_, _, _, _, _, _⟩) rfl (fun K hK => ?_) AllReadyH.nil
  go_simp
  refine (KFS5.out _ (by first | assumption | exact Below.drew (by assumption))).mono ?_
  rintro e wZ ⟨rfl, hbwZ⟩
  refine hK.out _ _ (HCE.out _ hbwZ) (fun hHeld => ?_)
  clear hK K
  try simp only [Act.put, zA, zB, zC]
  refine tkY 26 ?_
  refine tkY 27 ?_
  refine wpAnyH_done (by kernel_rfl) ?_ _
  rotate_left
  have hne : (F == 0) = true := beq_iff_eq.2 hc
  have hff : (F != F) = false := by simp
  refine wp_region_held_drew (S := fun w' => w'.cell? ⟨w4.heap.size, 0, none⟩ = some (.slice a1 m1.dt.length ca1) ∧ w'.cell? ⟨w4.heap.size, 1, none⟩ = some (.int .i64 m1.st) ∧ w'.cell? ⟨w4.heap.size, 2, none⟩ = some (.slice t1 m1.tk.length ct1) ∧ w'.cell? ⟨w4.heap.size, 3, none⟩ = some (.slice u1 m1.hd.length cu1) ∧ w'.cell? ⟨w4.heap.size, 4, none⟩ = some (.slice c1 m1.cs.length cc1) ∧ w'.cell? ⟨w5.heap.size, 0, none⟩ = some (.int .i64 F) ∧ w'.cell? ⟨w5.heap.size, 1, none⟩ = some (.slice v5 (toL m1).length d5)) (by kernel_rfl) (HCE.out _ (Below.refl _ _).drew) (fun hHeld => ?_)
  refine tkY 0 ?_
  refine tkY 1 ?_
  refine tkY 2 ?_
  refine wpAnyH_ready (rs := [3]) (by kernel_rfl) (by simp) ?_
  refine AllReadyH.cons (o := ⟨_, _, _, _, _, _⟩) rfl (fun K hK => ?_) AllReadyH.nil
  go_simp
  refine (KTS5.out _ (by first | assumption | exact Below.drew (by assumption))).mono ?_
  rintro e wA ⟨vA, dA, rfl, hbwA⟩
  refine hK.out _ _ (HCE.out _ hbwA) (fun hHeld => ?_)
  clear hK K
  try simp only [Act.put, zA, zB, zC]
  refine tkY 4 ?_
  refine tkY 5 ?_
  refine tkY 6 ?_
  refine tkY 7 ?_
  refine tkY 8 ?_
  refine tkY 9 ?_
  refine tkY 10 ?_
  refine tkY 11 ?_
  refine tkY 12 ?_
  refine tkY 13 ?_
  refine tkY 14 ?_
  refine wpAnyH_ready (rs := [15]) (by kernel_rfl) (by simp) ?_
  refine AllReadyH.cons (o := ⟨_, _, _, _, _, _⟩) rfl (fun K hK => ?_) AllReadyH.nil
  go_simp
  refine (KLT5.out hc _ (by first | assumption | exact Below.drew (by assumption))).mono ?_
  rintro e wD ⟨vD, dD, rfl, hDt, hbwD⟩
  refine hK.out _ _ (HCE.out _ hbwD) (fun hHeld => ?_)
  clear hK K
  try simp only [Act.put, zA, zB, zC]
  refine tkY 16 ?_
  refine wpAnyH_ready (rs := [17]) (by kernel_rfl) (by simp) ?_
  refine AllReadyH.cons (o := ⟨_, _, _, _, _, _⟩) rfl (fun K hK => ?_) AllReadyH.nil
  go_simp
  refine (KSM5.out hc _ vD dD (by first | assumption | exact Below.drew (by assumption)) hDt).mono ?_
  rintro e wE ⟨rfl, hbwE⟩
  refine hK.out _ _ (HCE.out _ hbwE) (fun hHeld => ?_)
  clear hK K
  try simp only [Act.put, zA, zB, zC]
  refine tkY 18 ?_
  refine tkY 19 ?_
  refine tkY 20 ?_
  refine tkY 21 ?_
  refine tkY 22 ?_
  refine tkY 24 ?_
  refine wpAnyH_ready (rs := [23]) (by kernel_rfl) (by simp) ?_
  refine AllReadyH.cons (o := ⟨_, _, _, _, _, _⟩) rfl (fun K hK => ?_) AllReadyH.nil
  go_simp
  refine (KF5.out _ (by first | assumption | exact Below.drew (by assumption))).mono ?_
  rintro e wB ⟨rfl, hbwB⟩
  refine hK.out _ _ (HCE.out _ hbwB) (fun hHeld => ?_)
  clear hK K
  try simp only [Act.put, zA, zB, zC]
  refine wpAnyH_ready (rs := [25]) (by kernel_rfl) (by simp) ?_
  refine AllReadyH.cons (o := ⟨_, _, _, _, _, _⟩) rfl (fun K hK => ?_) AllReadyH.nil
  go_simp
  refine (KFS5.out _ (by first | assumption | exact Below.drew (by assumption))).mono ?_
  rintro e wZ ⟨rfl, hbwZ⟩
  refine hK.out _ _ (HCE.out _ hbwZ) (fun hHeld => ?_)
  clear hK K
  try simp only [Act.put, zA, zB, zC]
  refine tkY 26 ?_
  refine tkY 27 ?_
  refine wpAnyH_done (by kernel_rfl) ?_ _
  all_goals
    have HB := Hid.mk' (HB.out.trans (hbwZ.mono HB.out.size))
    have RN := Hid.mk' (RN.out.below hbwZ)
    have HM := Hid.mk' (HM.out.below hbwZ)
    have HD := Hid.mk' (HD.out.below hbwZ)
    clear x0 x1 x2 x3 x4 z0 z1 KTS5 KF5 KFS5 KLT5 KSM5 HCE fl0 fl1 s4 s5 R1 RT HT5 DM5 DM1 G1 TL1 EN4 H5 b00 hne hff
    have bZ : Below wZ.heap.size wZ wZ := Below.refl _ _
    have fm0 := fMR0
    have fm2 := fMR2
    by_cases ha0 : askC D S = 0
    rotate_left
    · have KC : Hid (∀ V, Below wZ.heap.size wZ V → Calls Tryz.prog 33 #[.slice (some ⟨gd, 0, none⟩) D.length cd, .int .i64 S] V fun e w' => ∃ a t u c ca ct cu cc, e = .returned (.agg #[.int .i64 (askC D S), .int .i64 (rR D S), .slice a (rM D S).dt.length ca, .int .i64 (rM D S).st, .slice t (rM D S).tk.length ct, .slice u (rM D S).hd.length cu, .slice c (rM D S).cs.length cc]) ∧ Below wZ.heap.size wZ w') := Hid.mk' (fun V hV => (KSN.out V (HB.out.trans (hV.mono HB.out.size))).mono (fun e w' h => by
        obtain ⟨a, t, u, c, ca, ct, cu, cc, rfl, _, hb⟩ := h
        exact ⟨a, t, u, c, ca, ct, cu, cc, rfl, hV.trans (hb.mono hV.size)⟩))
      have x0 := RN.out.cell 0 _ rfl
      have hne2 : (askC D S != 0) = true := by simp [ha0]
      clear KSN HM HD
      generalize askC D S = C0 at *
      go_wp2
      refine wp_region_held_drew (S := fun w' => w'.cell? ⟨w3.heap.size, 0, none⟩ = some (.int .i64 C0)) (by kernel_rfl) ((RN.out).cell 0 _ rfl) (fun hHeld => ?_)
      refine tkY 0 ?_
      refine tkY 1 ?_
      refine tkY 4 ?_
      refine tkY 5 ?_
      refine wpAnyH_ready (rs := [2]) (by kernel_rfl) (by simp) ?_
      refine AllReadyH.cons (o := ⟨_, _, _, _, _, _⟩) rfl (fun K hK => ?_) AllReadyH.nil
      go_simp
      refine (KC.out _ (by first | assumption | exact Below.drew (by assumption))).mono ?_
      rintro e wN ⟨p1, p2, p3, p4, i1, i2, i3, i4, rfl, hbwN⟩
      refine hK.out _ _ ((RN.out.below hbwN).cell 0 _ rfl) (fun hHeld => ?_)
      clear hK K
      try simp only [Act.put, zA, zB, zC]
      refine tkY 3 ?_
      refine tkY 6 ?_
      refine tkY 7 ?_
      refine wpAnyH_done (by kernel_rfl) ?_ _
      have HF := Hid.mk' (BB.out.trans ((HB.out.trans (hbwN.mono HB.out.size)).mono BB.out.size))
      go_wp2
      go_ret
      exact ⟨rfl, HF.out⟩
    obtain ⟨h240, s, rfl, hs, hs2⟩ := askC_ok ha0
    have eM : rM D (s : Int) = memX D s := by unfold rM; rw [if_pos ha0, Int.toNat_natCast]
    have eR : rR D (s : Int) = (D.length : Int) := by unfold rR; rw [if_pos ha0]
    have hsz := rM_small D (s : Int)
    rw [eM, eR, ha0] at KSN RN
    rw [eM] at HM HC1 HY2 hsz
    clear eM eR ha0
    have KF9 : Hid (∀ V, Below w2.heap.size w2 V → MAt V y1 y2 y3 y4 (memX D s) → Calls Tryz.prog 31 #[.agg #[.slice y1 (memX D s).dt.length j1, .int .i64 (memX D s).st, .slice y2 (memX D s).tk.length j2, .slice y3 (memX D s).hd.length j3, .slice y4 (memX D s).cs.length j4]] V fun e w' => e = .returned (.int .i64 0) ∧ Below V.heap.size V w') := Hid.mk' (fun V hV hM => by
      have K := implMF_any tp pv (memX D s) y1 y2 y3 y4 j1 j2 j3 j4 V (EN.out V hV) hM HC1.out HDB.out hsz
      rw [memF_new h240 hs hs2] at K
      exact K)
    obtain ⟨N, hN⟩ : ∃ N, (memX D s).cs.length = N := ⟨_, rfl⟩
    have HN2 : Hid (N = D.length / s + 1) := Hid.mk' (by rw [← hN]; exact cksN_len _ _ _)
    obtain ⟨TN, hTN⟩ : ∃ TN, (memX D s).tk.length = TN := ⟨_, rfl⟩
    obtain ⟨HN, hHN⟩ : ∃ HN, (memX D s).hd.length = HN := ⟨_, rfl⟩
    rw [hN, hTN, hHN] at KF9 RN KSN
    rw [hTN] at HY2
    rw [show (memX D s).dt.length = D.length from rfl, show (memX D s).st = (s : Int) from rfl] at KF9 RN KSN
    rw [show (memX D s).dt.length = D.length from rfl] at HC1
    have HHN := Hid.mk' hN
    have HTN := Hid.mk' hTN
    have HHH := Hid.mk' hHN
    have hNb : N ≤ 241 := by rw [HN2.out]; have := Nat.div_le_self D.length s; omega
    have hNp : 0 < N := by rw [HN2.out]; exact Nat.succ_pos _
    clear hN hTN hHN
    have x0 := RN.out.cell 0 _ rfl
    have x2 := RN.out.cell 2 _ rfl
    have x3 := RN.out.cell 3 _ rfl
    have x4 := RN.out.cell 4 _ rfl
    have x5 := RN.out.cell 5 _ rfl
    have x6 := RN.out.cell 6 _ rfl
    go_wp2_with fail
    refine (KF9.out wZ HB.out HM.out).mono ?_
    rintro e wF ⟨rfl, hbF⟩
    have HB := Hid.mk' (HB.out.trans (hbF.mono HB.out.size))
    have RN := Hid.mk' (RN.out.below hbF)
    have HM := Hid.mk' (HM.out.below hbF)
    have HD := Hid.mk' (HD.out.below hbF)
    clear hbF KF9 x0 x2 x3 x4 x5 x6 bZ
    have x6 := RN.out.cell 6 _ rfl
    have n0 : ((N : Int) == 0) = false := beq_eq_false_iff_ne.2 (by omega)
    go_wp2
    go_loopw [8] (fun i wr => ∃ k : Nat, k ≤ N ∧ i = .int .i64 k ∧ Below wF.heap.size wF wr) (fun i _ => N - (intOf i).toNat)
    case atStart => exact ⟨0, Nat.zero_le _, rfl, Below.refl _ _⟩
    case round =>
      obtain ⟨k, hk, rfl, hbl⟩ := hrel
      have RW := Hid.mk' (RN.out.below hbl)
      have HBL := Hid.mk' hbl
      have HBW := Hid.mk' (HB.out.trans (hbl.mono HB.out.size))
      clear x6 n0
      have x2 := RW.out.cell 2 _ rfl
      have x3 := RW.out.cell 3 _ rfl
      have x4 := RW.out.cell 4 _ rfl
      have x5 := RW.out.cell 5 _ rfl
      have x6 := RW.out.cell 6 _ rfl
      by_cases hlt : k < N
      · have ci : (k : Int) < (N : Int) := by omega
        rcases HM.out.2.2.2 with h4 | ⟨b4, o4, rfl, hb4, hc4⟩
        · have hN := HHN.out; rw [h4] at hN; simp at hN; omega
        obtain ⟨q1, q2, p3, d3, q3, q4⟩ := hc4 k (by rw [HHN.out]; exact hlt)
        have q1 := (hbl.cell hb4).trans q1
        have q2 := (hbl.cell hb4).trans q2
        have q3 := (hbl.cell hb4).trans q3
        have Q4 := Hid.mk' (q4.below hbl)
        obtain ⟨g1, g2, g3, g4⟩ := mm_math (d := D) hs (show k ≤ D.length / s from Nat.le_of_lt_succ (by rw [← Nat.add_one, ← HN2.out]; exact hlt))
        have ek : ckK (memX D s).cs k = ckAt D s k := cksN_at D s _ k (by rw [← HN2.out]; exact hlt)
        rw [ek] at q1 q2 q3 Q4
        have ep : (ckAt D s k).pl = ((k * s : Nat) : Int) := rfl
        have ec : (ckAt D s k).ct = (((tkN D s k).length : Nat) : Int) := rfl
        have eh : (ckAt D s k).hd = hdN D s k := rfl
        rw [ep] at q1
        rw [ec] at q2
        rw [eh] at q3 Q4
        obtain ⟨P, hP⟩ : ∃ P, k * s = P := ⟨_, rfl⟩
        have hmul : IntKind.i64.wrap ((k : Int) * (s : Int)) = (P : Int) := by
          rw [← hP, IntKind.wrap_i64, ← Int.natCast_mul]; have : k * s ≤ 240 := Nat.le_trans g1 h240; omega
        have G3 := Hid.mk' g3
        have G4 := Hid.mk' g4
        obtain ⟨tn, htn⟩ : ∃ tn, (tkN D s k).length = tn := ⟨_, rfl⟩
        have HGH := Hid.mk' (allX_good (D.take (k * s)) [] [] (.inl rfl))
        have HGB := Hid.mk' (allX_byt (D.take (k * s)) [] [] (fun x hx => HDB.out.mem x (List.mem_of_mem_take hx)) Byt.nil)
        obtain ⟨Hk, hHk⟩ : ∃ Hk, hdN D s k = Hk := ⟨_, rfl⟩
        rw [show (allX [] [] (D.take (k * s))).2 = hdN D s k from rfl, hHk] at HGH HGB
        rw [hP] at q1 g1 G3 G4
        rw [htn] at q2 g2 G3
        rw [hHk] at q3 Q4 G3 G4
        have g2 : tn ≤ TN := by have := HTN.out; rw [← this]; exact g2
        clear hc4 q4 hbl ek ep ec eh g3 g4 hP htn hHk
        have NB := below_new wr (.cells #[.int .i64 (P : Int), .int .i64 (tn : Int), .slice p3 Hk.length d3] 31)
        have RC := RowA.new wr 31 #[.int .i64 (P : Int), .int .i64 (tn : Int), .slice p3 Hk.length d3]
        have RW2 := Hid.mk' (RW.out.below NB)
        have X2 := RW2.out.cell 2 _ rfl
        have X3 := RW2.out.cell 3 _ rfl
        have X4 := RW2.out.cell 4 _ rfl
        have X5 := RW2.out.cell 5 _ rfl
        have X6 := RW2.out.cell 6 _ rfl
        have w0c := RC.cell 0 _ rfl
        have w1c := RC.cell 1 _ rfl
        have w2c := RC.cell 2 _ rfl
        have HBN := Hid.mk' NB
        have RCN := Hid.mk' RC
        clear NB RC
        have c1 : ¬ (D.length : Int) < (P : Int) := by omega
        have c2 : ¬ (tn : Int) < 0 := by omega
        have c3 : ¬ (TN : Int) < (tn : Int) := by omega
        go_wp2
        generalize hW7 : wr.alloc (.cells #[.int .i64 (P : Int), .int .i64 (tn : Int), .slice p3 Hk.length d3] 31) = W7 at *
        clear hW7 x2 x3 x4 x5 x6 X2 X3 X4 X5 X6 w0c w1c w2c q1 q2 q3 c1 c2 c3 hmul
        have HB7 := Hid.mk' (HBW.out.trans (HBN.out.mono HBW.out.size))
        have HBF7 := Hid.mk' (HBL.out.trans (HBN.out.mono HBL.out.size))
        have HM7 := Hid.mk' (HM.out.below HBF7.out)
        have HD7 := Hid.mk' (HD.out.below HBF7.out)
        have Q47 := Hid.mk' (Q4.out.below HBN.out)
        generalize hVd : W7.drew = V6 at *
        have HBV : Hid (Below w2.heap.size w2 V6) := Hid.mk' (by rw [← hVd]; exact HB7.out.drew)
        have HBFV : Hid (Below wF.heap.size wF V6) := Hid.mk' (by rw [← hVd]; exact HBF7.out.drew)
        have RC6 : Hid (RowA V6 wr.heap.size 31 #[.int .i64 (P : Int), .int .i64 (tn : Int), .slice p3 Hk.length d3]) := Hid.mk' (by rw [← hVd]; exact RCN.out)
        have RW6 : Hid (RowA V6 w3.heap.size 50 #[.int .i64 0, .int .i64 (D.length : Int), .slice y1 D.length j1, .int .i64 (s : Int), .slice y2 TN j2, .slice y3 HN j3, .slice (some ⟨b4, o4, none⟩) N j4]) := Hid.mk' (by rw [← hVd]; exact RW2.out)
        have HM6 : Hid (MAt V6 y1 y2 y3 (some ⟨b4, o4, none⟩) (memX D s)) := Hid.mk' (by rw [← hVd]; exact HM7.out.below (Below.refl _ _).drew)
        have HD6 : Hid (CAt V6 gd 0 D) := Hid.mk' (by rw [← hVd]; exact HD7.out.below (Below.refl _ _).drew)
        have Q46 : Hid (BAt V6 p3 Hk) := Hid.mk' (by rw [← hVd]; exact Q47.out.below (Below.refl _ _).drew)
        have HCE : Hid (∀ v, Below V6.heap.size V6 v → (fun v => v.cell? ⟨wr.heap.size, 0, none⟩ = some (.int .i64 (P : Int)) ∧ v.cell? ⟨wr.heap.size, 2, none⟩ = some (.slice p3 Hk.length d3)) v) := Hid.mk' (fun v hb => ⟨(RC6.out.below hb).cell 0 _ rfl, (RC6.out.below hb).cell 2 _ rfl⟩)
        obtain ⟨TD, hTD⟩ : ∃ TD, (allX [] [] D).1.drop tn = TD := ⟨_, rfl⟩
        obtain ⟨HH, hHH⟩ : ∃ HH, (allX [] [] D).2 = HH := ⟨_, rfl⟩
        have KFa : Hid (∀ V pa, Below V6.heap.size V6 V → (0 < D.length - P → pa = some ⟨gd, P, none⟩) → Calls Tryz.prog 15 #[.agg #[.slice p3 Hk.length d3], .slice pa (D.length - P) (cd - P)] V fun e w' => FtP TD HH V e w') := Hid.mk' (fun V pa hV hpa => by
          have dl : (D.drop P).length = D.length - P := List.length_drop
          have hb := BAt.part (HD6.out.below hV).at P (D.length - P) (by omega) pa (fun h b o e => by cases e; rw [hpa h]; simp)
          rw [List.take_of_length_le (by rw [dl]; exact Nat.le_refl _)] at hb
          have K := feedFrom_any tp pv Hk p3 d3 (D.drop P) pa (cd - P) V (EN.out V (HBV.out.trans (hV.mono HBV.out.size))) (Q46.out.below hV) HGH.out HGB.out hb (Byt.of (fun x hx => HDB.out.mem x (List.mem_of_mem_drop hx))) (by omega)
          rw [dl] at K
          refine K.mono (fun e w' h => ?_)
          have h := h.ft
          rw [G3.out, G4.out, hTD, hHH] at h
          exact h)
        have HTD := Hid.mk' hTD
        have HHD := Hid.mk' hHH
        clear hTD hHH
        have ci4 : (P : Int) ≤ (cd : Int) := by omega
        have ci5 : (0 : Int) ≤ (P : Int) := by omega
        have ci6 : (P : Int) ≤ (D.length : Int) := by omega
        refine wp_region_held_drew (S := (fun v => v.cell? ⟨wr.heap.size, 0, none⟩ = some (.int .i64 (P : Int)) ∧ v.cell? ⟨wr.heap.size, 2, none⟩ = some (.slice p3 Hk.length d3))) (by kernel_rfl) (by rw [hVd]; exact HCE.out _ (Below.refl _ _)) (fun hHeld => ?_)
        rw [hVd] at hHeld ⊢
        clear hVd
        refine tkY 0 ?_
        refine tkY 1 ?_
        refine tkY 2 ?_
        refine tkY 3 ?_
        refine tkY 4 ?_
        refine tkY 5 ?_
        refine tkY 6 ?_
        generalize hpa : (if cd = P then (some ⟨gd, 0, none⟩ : Option Addr) else some ⟨gd, P, none⟩) = PA at *
        have HPA : Hid (0 < D.length - P → PA = some ⟨gd, P, none⟩) := Hid.mk' (fun h => by rw [← hpa, if_neg (by omega)])
        clear hpa
        have B6 := Hid.mk' (Below.refl V6.heap.size V6)
        refine wpAnyH_ready (rs := [7, 8]) (by kernel_rfl) (by simp) ?_
        refine AllReadyH.cons (o := ⟨_, _, _, _, _, _⟩) rfl (fun K9 hK => ?_) (AllReadyH.cons (o := ⟨_, _, _, _, _, _⟩) rfl (fun K9 hK => ?_) AllReadyH.nil)
        go_simp
        refine (KFa.out _ PA B6.out HPA.out).mono ?_
        rintro e1 v1 ⟨tb, td, hb_, hd_, us9, rs9, bl9, bh9, lo9, rfl, hlo9, htp, hbx, hlo, hbb⟩
        have TX := Hid.mk' htp
        have BX := Hid.mk' hbx
        have NE0 : Hid (∀ b o, hb_ = some ⟨b, o, none⟩ → HH ≠ [] → b ≠ v1.heap.size) := Hid.mk' (fun b o e hl => by have := bat_ltE hbx e hl; omega)
        have B6 := Hid.mk' (B6.out.trans (hbb.mono B6.out.size))
        clear htp hbx hlo hlo9 hbb
        refine hK.out _ _ (HCE.out _ B6.out) (fun hHeld => ?_)
        clear hK K9
        try simp only [Act.put, zA, zB, zC]
        refine wpAnyH_ready (rs := [8]) (by kernel_rfl) (by simp) ?_
        refine AllReadyH.cons (o := ⟨_, _, _, _, _, _⟩) rfl (fun K9 hK => ?_) AllReadyH.nil
        go_simp
        have hbb := below_new v1 (.cells #[.int .i64 0, .slice none 0 0, .slice none 0 0] 41)
        have BO : Hid (V6.heap.size ≤ v1.heap.size) := Hid.mk' B6.out.size
        have FX := Hid.mk' (RowA.new v1 41 #[.int .i64 0, .slice none 0 0, .slice none 0 0])
        have SF : Hid (v1.heap.size < (v1.alloc (.cells #[.int .i64 0, .slice none 0 0, .slice none 0 0] 41)).heap.size) := Hid.mk' (by simp)
        have BX := Hid.mk' (BX.out.below hbb)
        have NE := NE0
        have KX := Hid.mk' (KeptIn.of_below (lo := v1.heap.size) (hi := v1.heap.size + 1) hbb)
        have NT : Hid (v1.heap.size < lo9 ∨ v1.heap.size ≤ v1.heap.size) := Hid.mk' (.inr (Nat.le_refl _))
        have B6 := Hid.mk' (B6.out.trans (hbb.mono B6.out.size))
        clear hbb
        refine hK.out _ _ (HCE.out _ B6.out) (fun hHeld => ?_)
        clear hK K9
        try simp only [Act.put, zA, zB, zC]
        generalize hvv : (v1.alloc (.cells #[.int .i64 0, .slice none 0 0, .slice none 0 0] 41)) = v9 at *
        clear hvv
        refine wpAnyH_ready (rs := [9]) (by kernel_rfl) (by simp) ?_
        refine AllReadyH.cons (o := ⟨_, _, _, _, _, _⟩) rfl (fun K9 hK => ?_) AllReadyH.nil
        refine step_store_row rfl 41 (.tmp 10) (.tmp 122) rfl (v1.heap.size) #[.int .i64 0, .slice tb TD.length td, .slice hb_ HH.length hd_] rfl rfl 41 #[.int .i64 0, .slice none 0 0, .slice none 0 0] FX.out (by kernel_rfl) rfl (by kernel_rfl) ?_
        have BS := RowA.putBelow B6.out BO.out #[.int .i64 0, .slice tb TD.length td, .slice hb_ HH.length hd_]
        refine hK.out _ _ (HCE.out _ BS) (fun hHeld => ?_)
        clear hK K9
        try simp only [Act.put, zA, zB, zC]
        refine wpAnyH_done (by kernel_rfl) ?_ _
        clear hHeld
        have RX := Hid.mk' (FX.out.put #[.int .i64 0, .slice tb TD.length td, .slice hb_ HH.length hd_])
        have BU := Hid.mk' BS
        have BXU := Hid.mk' (bat_rowE BX.out NE.out #[.int .i64 0, .slice tb TD.length td, .slice hb_ HH.length hd_])
        have TXU := Hid.mk' (tp_put TX.out (KX.out.trans (RowA.keptRow v9 (v1.heap.size) #[.int .i64 0, .slice tb TD.length td, .slice hb_ HH.length hd_])) NT.out)
        clear BS BX FX NE NT KX TX B6 BO SF
        generalize hU : (v9.setRow (v1.heap.size) #[.int .i64 0, .slice tb TD.length td, .slice hb_ HH.length hd_]) = U at *
        clear hU
        obtain ⟨g10, hg10⟩ : ∃ g, g = (v1.heap.size) := ⟨_, rfl⟩
        rw [← hg10] at RX ⊢
        clear hg10
        clear NE0
        rotate_left
        go_simp
        have hbb := below_new V6 (.cells #[.int .i64 0, .slice none 0 0, .slice none 0 0] 41)
        have BO : Hid (V6.heap.size ≤ V6.heap.size) := Hid.mk' B6.out.size
        have FX := Hid.mk' (RowA.new V6 41 #[.int .i64 0, .slice none 0 0, .slice none 0 0])
        have SF : Hid (V6.heap.size < (V6.alloc (.cells #[.int .i64 0, .slice none 0 0, .slice none 0 0] 41)).heap.size) := Hid.mk' (by simp)
        have B6 := Hid.mk' (B6.out.trans (hbb.mono B6.out.size))
        clear hbb
        refine hK.out _ _ (HCE.out _ B6.out) (fun hHeld => ?_)
        clear hK K9
        try simp only [Act.put, zA, zB, zC]
        generalize hvv : (V6.alloc (.cells #[.int .i64 0, .slice none 0 0, .slice none 0 0] 41)) = v9 at *
        clear hvv
        refine wpAnyH_ready (rs := [7]) (by kernel_rfl) (by simp) ?_
        refine AllReadyH.cons (o := ⟨_, _, _, _, _, _⟩) rfl (fun K9 hK => ?_) AllReadyH.nil
        go_simp
        refine (KFa.out _ PA B6.out HPA.out).mono ?_
        rintro e1 v1 ⟨tb, td, hb_, hd_, us9, rs9, bl9, bh9, lo9, rfl, hlo9, htp, hbx, hlo, hbb⟩
        have TX := Hid.mk' htp
        have BX := Hid.mk' hbx
        have FX := Hid.mk' (FX.out.below hbb)
        have NE : Hid (∀ b o, hb_ = some ⟨b, o, none⟩ → HH ≠ [] → b ≠ V6.heap.size) := Hid.mk' (fun b o e _ => by have := hlo b o e; have := SF.out; omega)
        have KX := Hid.mk' (KeptIn.refl V6.heap.size (V6.heap.size + 1) v1)
        have NT : Hid (V6.heap.size < lo9 ∨ v1.heap.size ≤ V6.heap.size) := Hid.mk' (by have := SF.out; omega)
        have B6 := Hid.mk' (B6.out.trans (hbb.mono B6.out.size))
        clear htp hbx hlo hlo9 hbb
        refine hK.out _ _ (HCE.out _ B6.out) (fun hHeld => ?_)
        clear hK K9
        try simp only [Act.put, zA, zB, zC]
        refine wpAnyH_ready (rs := [9]) (by kernel_rfl) (by simp) ?_
        refine AllReadyH.cons (o := ⟨_, _, _, _, _, _⟩) rfl (fun K9 hK => ?_) AllReadyH.nil
        refine step_store_row rfl 41 (.tmp 10) (.tmp 122) rfl (V6.heap.size) #[.int .i64 0, .slice tb TD.length td, .slice hb_ HH.length hd_] rfl rfl 41 #[.int .i64 0, .slice none 0 0, .slice none 0 0] FX.out (by kernel_rfl) rfl (by kernel_rfl) ?_
        have BS := RowA.putBelow B6.out BO.out #[.int .i64 0, .slice tb TD.length td, .slice hb_ HH.length hd_]
        refine hK.out _ _ (HCE.out _ BS) (fun hHeld => ?_)
        clear hK K9
        try simp only [Act.put, zA, zB, zC]
        refine wpAnyH_done (by kernel_rfl) ?_ _
        clear hHeld
        have RX := Hid.mk' (FX.out.put #[.int .i64 0, .slice tb TD.length td, .slice hb_ HH.length hd_])
        have BU := Hid.mk' BS
        have BXU := Hid.mk' (bat_rowE BX.out NE.out #[.int .i64 0, .slice tb TD.length td, .slice hb_ HH.length hd_])
        have TXU := Hid.mk' (tp_put TX.out (KX.out.trans (RowA.keptRow v1 (V6.heap.size) #[.int .i64 0, .slice tb TD.length td, .slice hb_ HH.length hd_])) NT.out)
        clear BS BX FX NE NT KX TX B6 BO SF
        generalize hU : (v1.setRow (V6.heap.size) #[.int .i64 0, .slice tb TD.length td, .slice hb_ HH.length hd_]) = U at *
        clear hU
        obtain ⟨g10, hg10⟩ : ∃ g, g = (V6.heap.size) := ⟨_, rfl⟩
        rw [← hg10] at RX ⊢
        clear hg10
        all_goals
          have RWU := Hid.mk' (RW6.out.below BU.out)
          have RCU := Hid.mk' (RC6.out.below BU.out)
          have HMU := Hid.mk' (HM6.out.below BU.out)
          have EH : HN = HH.length := by rw [← HHH.out, ← HHD.out]; rfl
          have ET : (memX D s).tk.drop tn = TD := HTD.out
          have EL : TD.length = TN - tn := by rw [← ET, List.length_drop, HTN.out]
          have KLW : Hid (∀ V, Below U.heap.size U V → Calls Tryz.prog 34 #[.slice hb_ HH.length hd_, .slice y3 HN j3] V fun e w' => e = .returned (.bool true) ∧ w' = V) := Hid.mk' (fun V hV => by
            have K := lwBytes_beqE hb_ y3 hd_ j3 HH (memX D s).hd V (BXU.out.below hV) (HMU.out.below hV).2.2.1
            rw [HHH.out] at K
            refine K.mono (fun e w' h => ⟨?_, h.2⟩)
            rw [h.1, show (memX D s).hd = HH from HHD.out, beqB_refl])
          have KS0 : Hid (∀ V pt d, Below U.heap.size U V → TsAt V pt TD → Calls Tryz.prog 29 #[.slice tb TD.length td, .slice pt TD.length d] V fun e w' => e = .returned (.bool true) ∧ Below U.heap.size U w') := Hid.mk' (fun V pt d hV ht => by
            have hf := drop_fits D tn h240
            rw [show (allX [] [] D).1.drop tn = TD from HTD.out] at hf
            refine (implSameT_any tb pt td d TD TD V (tp_at (TXU.out.below hV)) ht hf hf).mono (fun e w' h => ⟨?_, hV.trans (h.2.mono hV.size)⟩)
            rw [h.1, sameTs_refl])
          rcases HY2.out with ⟨rfl, hT0, rfl⟩ | ⟨b2, rfl, hle⟩
          · subst hT0
            obtain rfl : tn = 0 := by omega
            have hTn : TD = [] := List.eq_nil_of_length_eq_zero (by omega)
            have KST : Hid (∀ V pt d, Below U.heap.size U V → Calls Tryz.prog 29 #[.slice tb TD.length td, .slice pt 0 d] V fun e w' => e = .returned (.bool true) ∧ Below U.heap.size U w') := Hid.mk' (fun V pt d hV => by
              have K := KS0.out V pt d hV (by rw [hTn]; exact .inl rfl)
              rw [hTn] at K ⊢
              exact K)
            clear EL hTn ET EH KS0
            have HC2 : Hid (∀ v, Below U.heap.size U v → (fun v => v.cell? ⟨g10, 0, none⟩ = some (.int .i64 0) ∧ v.cell? ⟨g10, 1, none⟩ = some (.slice tb TD.length td) ∧ v.cell? ⟨g10, 2, none⟩ = some (.slice hb_ HH.length hd_) ∧ v.cell? ⟨w3.heap.size, 4, none⟩ = some (.slice none 0 0) ∧ v.cell? ⟨w3.heap.size, 5, none⟩ = some (.slice y3 HN j3) ∧ v.cell? ⟨wr.heap.size, 1, none⟩ = some (.int .i64 ((0 : Nat) : Int))) v) := Hid.mk' (fun v hb => ⟨(RX.out.below hb).cell 0 _ rfl, (RX.out.below hb).cell 1 _ rfl, (RX.out.below hb).cell 2 _ rfl, (RWU.out.below hb).cell 4 _ rfl, (RWU.out.below hb).cell 5 _ rfl, (RCU.out.below hb).cell 1 _ rfl⟩)
            have b00 : Below U.heap.size U U := Below.refl _ _
            go_wp2
            refine wp_region_held_drew (S := fun v => v.cell? ⟨g10, 0, none⟩ = some (.int .i64 0) ∧ v.cell? ⟨g10, 1, none⟩ = some (.slice tb TD.length td) ∧ v.cell? ⟨g10, 2, none⟩ = some (.slice hb_ HH.length hd_) ∧ v.cell? ⟨w3.heap.size, 4, none⟩ = some (.slice none 0 0) ∧ v.cell? ⟨w3.heap.size, 5, none⟩ = some (.slice y3 HN j3) ∧ v.cell? ⟨wr.heap.size, 1, none⟩ = some (.int .i64 ((0 : Nat) : Int))) (by kernel_rfl) (HC2.out _ (Below.refl _ _).drew) (fun hHeld => ?_)
            refine tkY 0 ?_
            refine tkY 1 ?_
            refine tkY 2 ?_
            refine tkY 3 ?_
            refine tkY 4 ?_
            refine tkY 5 ?_
            refine tkY 6 ?_
            refine tkY 7 ?_
            refine tkY 8 ?_
            refine tkY 9 ?_
            refine tkY 10 ?_
            refine tkY 11 ?_
            refine wpAnyH_ready (rs := [12]) (by kernel_rfl) (by simp) ?_
            refine AllReadyH.cons (o := ⟨_, _, _, _, _, _⟩) rfl (fun K hK => ?_) AllReadyH.nil
            go_simp
            refine (KST.out _ none 0 (by first | assumption | exact Below.drew (by assumption))).mono ?_
            rintro e wG ⟨rfl, hbwG⟩
            refine hK.out _ _ (HC2.out _ hbwG) (fun hHeld => ?_)
            clear hK K
            try simp only [Act.put, zA, zB, zC]
            refine tkY 13 ?_
            refine tkY 14 ?_
            refine tkY 15 ?_
            refine tkY 16 ?_
            refine tkY 17 ?_
            refine tkY 18 ?_
            refine tkY 19 ?_
            refine tkY 20 ?_
            refine tkY 21 ?_
            refine wpAnyH_ready (rs := [22]) (by kernel_rfl) (by simp) ?_
            refine AllReadyH.cons (o := ⟨_, _, _, _, _, _⟩) rfl (fun K hK => ?_) AllReadyH.nil
            go_simp
            refine (KLW.out wG hbwG).mono ?_
            rintro e wH ⟨rfl, hwH⟩
            obtain rfl := hwH.symm
            refine hK.out _ _ (HC2.out _ hbwG) (fun hHeld => ?_)
            clear hK K
            try simp only [Act.put, zA, zB, zC]
            refine tkY 23 ?_
            refine tkY 24 ?_
            refine wpAnyH_done (by kernel_rfl) ?_ _
            have HF := Hid.mk' (HBFV.out.trans ((BU.out.trans (hbwG.mono BU.out.size)).mono HBFV.out.size))
            go_wp2
            go_roundw
            case rel => exact ⟨k + 1, by omega, by go_num, HF.out⟩
            case measure => simp [intOf]; omega
          · have KST : Hid (∀ V pt d, Below U.heap.size U V → (if j2 = tn then (some ⟨b2, 0, none⟩ : Option Addr) else some ⟨b2, tn * 5, none⟩) = pt → Calls Tryz.prog 29 #[.slice tb TD.length td, .slice pt (TN - tn) d] V fun e w' => e = .returned (.bool true) ∧ Below U.heap.size U w') := Hid.mk' (fun V pt d hV hpt => by
              have hr := TsAt.rest (c := j2) (n := tn) (HMU.out.below hV).2.1 (by rw [HTN.out]; exact hle) (by rw [HTN.out]; exact g2)
              rw [ET, Nat.zero_add, hpt] at hr
              have K := KS0.out V pt d hV hr
              rw [← EL]
              exact K)
            clear EL ET EH KS0
            have c11 : (tn : Int) ≤ (TN : Int) := by omega
            have c12 : (tn : Int) ≤ (j2 : Int) := by omega
            have c13 : (0 : Int) ≤ (tn : Int) := by omega
            have HC2 : Hid (∀ v, Below U.heap.size U v → (fun v => v.cell? ⟨g10, 0, none⟩ = some (.int .i64 0) ∧ v.cell? ⟨g10, 1, none⟩ = some (.slice tb TD.length td) ∧ v.cell? ⟨g10, 2, none⟩ = some (.slice hb_ HH.length hd_) ∧ v.cell? ⟨w3.heap.size, 4, none⟩ = some (.slice (some ⟨b2, 0, none⟩) TN j2) ∧ v.cell? ⟨w3.heap.size, 5, none⟩ = some (.slice y3 HN j3) ∧ v.cell? ⟨wr.heap.size, 1, none⟩ = some (.int .i64 (tn : Int))) v) := Hid.mk' (fun v hb => ⟨(RX.out.below hb).cell 0 _ rfl, (RX.out.below hb).cell 1 _ rfl, (RX.out.below hb).cell 2 _ rfl, (RWU.out.below hb).cell 4 _ rfl, (RWU.out.below hb).cell 5 _ rfl, (RCU.out.below hb).cell 1 _ rfl⟩)
            have b00 : Below U.heap.size U U := Below.refl _ _
            go_wp2
            refine wp_region_held_drew (S := fun v => v.cell? ⟨g10, 0, none⟩ = some (.int .i64 0) ∧ v.cell? ⟨g10, 1, none⟩ = some (.slice tb TD.length td) ∧ v.cell? ⟨g10, 2, none⟩ = some (.slice hb_ HH.length hd_) ∧ v.cell? ⟨w3.heap.size, 4, none⟩ = some (.slice (some ⟨b2, 0, none⟩) TN j2) ∧ v.cell? ⟨w3.heap.size, 5, none⟩ = some (.slice y3 HN j3) ∧ v.cell? ⟨wr.heap.size, 1, none⟩ = some (.int .i64 (tn : Int))) (by kernel_rfl) (HC2.out _ (Below.refl _ _).drew) (fun hHeld => ?_)
            refine tkY 0 ?_
            refine tkY 1 ?_
            refine tkY 2 ?_
            refine tkY 3 ?_
            refine tkY 4 ?_
            refine tkY 5 ?_
            refine tkY 6 ?_
            refine tkY 7 ?_
            refine tkY 8 ?_
            refine tkY 9 ?_
            refine tkY 10 ?_
            refine tkY 11 ?_
            generalize hpt : (if j2 = tn then (some ⟨b2, 0, none⟩ : Option Addr) else some ⟨b2, tn * 5, none⟩) = PT at *
            clear hpt
            refine wpAnyH_ready (rs := [12]) (by kernel_rfl) (by simp) ?_
            refine AllReadyH.cons (o := ⟨_, _, _, _, _, _⟩) rfl (fun K hK => ?_) AllReadyH.nil
            go_simp
            refine (KST.out _ PT (j2 - tn) (by first | assumption | exact Below.drew (by assumption)) rfl).mono ?_
            rintro e wG ⟨rfl, hbwG⟩
            refine hK.out _ _ (HC2.out _ hbwG) (fun hHeld => ?_)
            clear hK K
            try simp only [Act.put, zA, zB, zC]
            refine tkY 13 ?_
            refine tkY 14 ?_
            refine tkY 15 ?_
            refine tkY 16 ?_
            refine tkY 17 ?_
            refine tkY 18 ?_
            refine tkY 19 ?_
            refine tkY 20 ?_
            refine tkY 21 ?_
            refine wpAnyH_ready (rs := [22]) (by kernel_rfl) (by simp) ?_
            refine AllReadyH.cons (o := ⟨_, _, _, _, _, _⟩) rfl (fun K hK => ?_) AllReadyH.nil
            go_simp
            refine (KLW.out wG hbwG).mono ?_
            rintro e wH ⟨rfl, hwH⟩
            obtain rfl := hwH.symm
            refine hK.out _ _ (HC2.out _ hbwG) (fun hHeld => ?_)
            clear hK K
            try simp only [Act.put, zA, zB, zC]
            refine tkY 23 ?_
            refine tkY 24 ?_
            refine wpAnyH_done (by kernel_rfl) ?_ _
            have HF := Hid.mk' (HBFV.out.trans ((BU.out.trans (hbwG.mono BU.out.size)).mono HBFV.out.size))
            go_wp2
            go_roundw
            case rel => exact ⟨k + 1, by omega, by go_num, HF.out⟩
            case measure => simp [intOf]; omega
      · have ci : ¬ (k : Int) < (N : Int) := by omega
        have KC22 : Hid (∀ V, Below wr.heap.size wr V → Calls Tryz.prog 33 #[.slice (some ⟨gd, 0, none⟩) D.length cd, .int .i64 (s : Int)] V fun e w' => ∃ a t u c ca ct cu cc, e = .returned (.agg #[.int .i64 0, .int .i64 (D.length : Int), .slice a D.length ca, .int .i64 (s : Int), .slice t TN ct, .slice u HN cu, .slice c N cc]) ∧ MAt w' a t u c (memX D s) ∧ Below wr.heap.size wr w') := Hid.mk' (fun V hV => (KSN.out V (HBW.out.trans (hV.mono HBW.out.size))).mono (fun e w' h => by
          obtain ⟨a, t, u, c, ca, ct, cu, cc, rfl, hM, hb⟩ := h
          exact ⟨a, t, u, c, ca, ct, cu, cc, rfl, hM, hV.trans (hb.mono hV.size)⟩))
        have KSM : Hid (∀ V a t u c ca ct cu cc, Below wr.heap.size wr V → MAt V a t u c (memX D s) → Calls Tryz.prog 12 #[.agg #[.slice y1 D.length j1, .int .i64 (s : Int), .slice y2 TN j2, .slice y3 HN j3, .slice y4 N j4], .agg #[.slice a D.length ca, .int .i64 (s : Int), .slice t TN ct, .slice u HN cu, .slice c N cc]] V fun e w' => e = .returned (.bool true) ∧ Below wr.heap.size wr w') := Hid.mk' (fun V a t u c ca ct cu cc hV hM => by
          have K := implSM_any (memX D s) (memX D s) y1 y2 y3 y4 a t u c j1 j2 j3 j4 ca ct cu cc V ((HM.out.below hbl).below hV) hM hsz hsz
          rw [sameM_refl, HTN.out, HHH.out, HHN.out] at K
          exact K.mono (fun e w' h => ⟨h.1, hV.trans (h.2.mono hV.size)⟩))
        have HC22 : Hid (∀ v, Below wr.heap.size wr v → (fun v => v.cell? ⟨w3.heap.size, 2, none⟩ = some (.slice y1 D.length j1) ∧ v.cell? ⟨w3.heap.size, 3, none⟩ = some (.int .i64 (s : Int)) ∧ v.cell? ⟨w3.heap.size, 4, none⟩ = some (.slice y2 TN j2) ∧ v.cell? ⟨w3.heap.size, 5, none⟩ = some (.slice y3 HN j3) ∧ v.cell? ⟨w3.heap.size, 6, none⟩ = some (.slice y4 N j4)) v) := Hid.mk' (fun v hb => ⟨(RW.out.below hb).cell 2 _ rfl, (RW.out.below hb).cell 3 _ rfl, (RW.out.below hb).cell 4 _ rfl, (RW.out.below hb).cell 5 _ rfl, (RW.out.below hb).cell 6 _ rfl⟩)
        have b22 : Below wr.heap.size wr wr := Below.refl _ _
        clear KSN hbl HM HD RW RN EN
        go_wp2
        clear x2 x3 x4 x5 x6
        refine wp_region_held_drew (S := fun v => v.cell? ⟨w3.heap.size, 2, none⟩ = some (.slice y1 D.length j1) ∧ v.cell? ⟨w3.heap.size, 3, none⟩ = some (.int .i64 (s : Int)) ∧ v.cell? ⟨w3.heap.size, 4, none⟩ = some (.slice y2 TN j2) ∧ v.cell? ⟨w3.heap.size, 5, none⟩ = some (.slice y3 HN j3) ∧ v.cell? ⟨w3.heap.size, 6, none⟩ = some (.slice y4 N j4)) (by kernel_rfl) (HC22.out _ (Below.refl _ _).drew) (fun hHeld => ?_)
        refine tkY 0 ?_
        refine tkY 1 ?_
        refine tkY 2 ?_
        refine tkY 3 ?_
        refine wpAnyH_ready (rs := [4]) (by kernel_rfl) (by simp) ?_
        refine AllReadyH.cons (o := ⟨_, _, _, _, _, _⟩) rfl (fun K hK => ?_) AllReadyH.nil
        go_simp
        refine (KC22.out _ (by first | assumption | exact Below.drew (by assumption))).mono ?_
        rintro e wS ⟨p1, p2, p3, p4, i1, i2, i3, i4, rfl, hMS, hbwS⟩
        refine hK.out _ _ (HC22.out _ hbwS) (fun hHeld => ?_)
        clear hK K
        try simp only [Act.put, zA, zB, zC]
        refine tkY 5 ?_
        refine wpAnyH_ready (rs := [6]) (by kernel_rfl) (by simp) ?_
        refine AllReadyH.cons (o := ⟨_, _, _, _, _, _⟩) rfl (fun K hK => ?_) AllReadyH.nil
        go_simp
        refine (KSM.out wS p1 p2 p3 p4 i1 i2 i3 i4 hbwS hMS).mono ?_
        rintro e wT ⟨rfl, hbwT⟩
        refine hK.out _ _ (HC22.out _ hbwT) (fun hHeld => ?_)
        clear hK K
        try simp only [Act.put, zA, zB, zC]
        refine tkY 7 ?_
        refine wpAnyH_done (by kernel_rfl) ?_ _
        have HF := Hid.mk' (BB.out.trans ((HBW.out.trans (hbwT.mono HBW.out.size)).mono BB.out.size))
        go_wp2
        go_ret
        exact ⟨rfl, HF.out⟩

end Go.Proofs.YtlimgcmhidooaaaGreatDoor
