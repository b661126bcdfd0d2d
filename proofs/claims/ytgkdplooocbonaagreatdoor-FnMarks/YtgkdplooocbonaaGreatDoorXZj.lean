/- ReadTag, both sides. -/
import Derived.Test.YtgkdplooocbonaaGreatDoorXZe
import Derived.Test.YtgkdplooocbonaaGreatDoorXZi
import Derived.Recover
namespace Go.Proofs.YtgkdplooocbonaaGreatDoor
open Go.RowKit
set_option linter.unusedVariables false
set_option linter.unusedSimpArgs false

theorem six_other (w : World) (g k : Nat) (c x y z u v : Value) (h : k ≠ g) : ((((((w.setCell ⟨g, 0, none⟩ c).setCell ⟨g, 1, none⟩ x).setCell ⟨g, 2, none⟩ y).setCell ⟨g, 3, none⟩ z).setCell ⟨g, 4, none⟩ u).setCell ⟨g, 5, none⟩ v).heap[k]? = w.heap[k]? := by
  rw [Deep.blk_setCell_other _ _ _ _ h, Deep.blk_setCell_other _ _ _ _ h, Deep.blk_setCell_other _ _ _ _ h, Deep.blk_setCell_other _ _ _ _ h, Deep.blk_setCell_other _ _ _ _ h, Deep.blk_setCell_other _ _ _ _ h]
theorem six_below {B : Nat} {w w' : World} (h : Below B w w') (g : Nat) (c x y z u v : Value) (hg : B ≤ g) : Below B w ((((((w'.setCell ⟨g, 0, none⟩ c).setCell ⟨g, 1, none⟩ x).setCell ⟨g, 2, none⟩ y).setCell ⟨g, 3, none⟩ z).setCell ⟨g, 4, none⟩ u).setCell ⟨g, 5, none⟩ v) :=
  (((((h.setCell (p := ⟨g, 0, none⟩) hg _).setCell (p := ⟨g, 1, none⟩) hg _).setCell (p := ⟨g, 2, none⟩) hg _).setCell (p := ⟨g, 3, none⟩) hg _).setCell (p := ⟨g, 4, none⟩) hg _).setCell (p := ⟨g, 5, none⟩) hg _
/-- The end of a reader: six cells are laid. -/
theorem ResP.mk {L : List UInt8} {w W : World} {q : Nat} (cc kd b : Int) (nm : ByteArray) (v : Value) (sh : Bool) (l : List AT) (us : List Value) (h1 : rtC L = cc) (h2 : rtT L = ⟨kd, b, nm, l, sh⟩) (ho : OA q W v l us) (hb : Below w.heap.size w W) (hq : w.heap.size < q) :
    ResP L w (.returned (.agg #[.int .i64 cc, .int .i64 kd, .int .i64 b, .string nm, v, .bool sh])) ((((((W.setCell ⟨w.heap.size, 0, none⟩ (.int .i64 cc)).setCell ⟨w.heap.size, 1, none⟩ (.int .i64 kd)).setCell ⟨w.heap.size, 2, none⟩ (.int .i64 b)).setCell ⟨w.heap.size, 3, none⟩ (.string nm)).setCell ⟨w.heap.size, 4, none⟩ v).setCell ⟨w.heap.size, 5, none⟩ (.bool sh)) := by
  unfold ResP
  rw [h1, h2]
  exact ⟨v, us, rfl, ho.keep (by omega) (fun k hk _ => six_other W w.heap.size k _ _ _ _ _ _ (by omega)), six_below hb w.heap.size _ _ _ _ _ _ (Nat.le_refl _)⟩

theorem ResP.alloc {L : List UInt8} {w W : World} {e : Ending} (h : ResP L w e W) (o : Obj) : ResP L w e (W.alloc o) := by
  obtain ⟨v, us, h1, h2, h3⟩ := h
  exact ⟨v, us, h1, h2.below (below_new W o), h3.alloc h3.size o⟩

/-- The deferred function, when there is a panic: the answer is a code alone. -/
theorem catch_panic (r : Nat) (tp : TypeId) (pv : Value) (older : List PanicEntry) (w : World) {c x y z u v : Value} (hr : w.rowIs r 73 6 (r6 c x y z u v)) :
    CallsD Tryz.prog 45 #[.pointer (some ⟨r, 0, none⟩)] (.panicking ({ v := .iface tp pv, recovered := false } :: older)) w fun e u' w' =>
      e = .returned (.tuple #[]) ∧ u' = .panicking ({ v := .iface tp pv, recovered := true } :: older) ∧ w' = (((((w.setCell ⟨r, 0, none⟩ (.int .i64 5)).setCell ⟨r, 1, none⟩ (.int .i64 0)).setCell ⟨r, 2, none⟩ (.int .i64 0)).setCell ⟨r, 3, none⟩ (.string ⟨#[]⟩)).setCell ⟨r, 4, none⟩ (.slice none 0 0)).setCell ⟨r, 5, none⟩ (.bool false) := by
  obtain ⟨d0, d1, d2, d3, d4, d5, d6⟩ := cells6 hr
  have f0 := hr.frozen 0
  have f1 := hr.frozen 1
  have f2 := hr.frozen 2
  have f3 := hr.frozen 3
  have f4 := hr.frozen 4
  have f5 := hr.frozen 5
  clear hr
  refine callsD_of_wpS Tryz.func45 rfl fun c₀ cs hu => ?_
  apply wpS_seq
  apply wpS_region
  simp [wpOpsS, go_sem, recoverD, hu, Tryz.ntmps45, Exit.thenS]
  refine wpS_cond (t := true) (by simp [Act.eval, Array.replicate]) ?_
  simp only [if_true]
  apply wpS_region
  simp [wpOpsS, go_sem, d0, d1, d2, d3, d4, d5, d6, f0, f1, f2, f3, f4, f5, bodyPostS, results, Tryz.results45]

theorem catch_idle (r : Nat) (w : World) :
    CallsD Tryz.prog 45 #[.pointer (some ⟨r, 0, none⟩)] .returning w fun e u' w' => e = .returned (.tuple #[]) ∧ u' = .returning ∧ w' = w := by
  refine callsD_of_wpS Tryz.func45 rfl fun c₀ cs hu => ?_
  apply wpS_seq
  apply wpS_region
  simp [wpOpsS, go_sem, recoverD, hu, Tryz.ntmps45, Exit.thenS]
  refine wpS_cond (t := false) (by simp [Act.eval, Array.replicate]) ?_
  simp only [Bool.false_eq_true, if_false]
  refine wpS_of_wp (wp_skip ?_)
  cases c₀
  simp_all [bodyPostS, results, Tryz.results45]

set_option maxRecDepth 100000 in
set_option maxHeartbeats 3200000 in
theorem implRT_any (s : ByteArray) (tp : TypeId) (pv : Value) (w : World) (hE : Env w.heap.size tp pv w) (hs : s.size ≤ 1048576) :
    Calls Tryz.prog 40 #[.string s] w fun e w' => ResP s.data.toList w e w' := by
  have hmf : ∀ (fn : Fn) (first cap : Array Value) (w : World), (Instr.makeFunc fn first cap).run Tryz.prog w = .ok (.func fn first cap) w := fun _ _ _ _ => rfl
  have hl := len_list s
  have N0 := below_new w (.cells #[.int .i64 0, .int .i64 0, .int .i64 0, .string ⟨#[]⟩, .slice none 0 0, .bool false] 73)
  have RR := row6 w 73 (.int .i64 0) (.int .i64 0) (.int .i64 0) (.string ⟨#[]⟩) (.slice none 0 0) (.bool false)
  have sz0 : (w.alloc (.cells #[.int .i64 0, .int .i64 0, .int .i64 0, .string ⟨#[]⟩, .slice none 0 0, .bool false] 73)).heap.size = w.heap.size + 1 := by simp
  obtain ⟨d0, d1, d2, d3, d4, d5, d6⟩ := cells6 RR
  have f0 := RR.frozen 0
  have f1 := RR.frozen 1
  have f2 := RR.frozen 2
  have f3 := RR.frozen 3
  have f4 := RR.frozen 4
  have f5 := RR.frozen 5
  have HR := Hid.mk' RR
  have B0 := Hid.mk' N0
  have E0 := Hid.mk' (hE.keep N0)
  clear RR N0 hE
  generalize hw0 : w.alloc (.cells #[.int .i64 0, .int .i64 0, .int .i64 0, .string ⟨#[]⟩, .slice none 0 0, .bool false] 73) = w0 at *
  by_cases c1 : 160 < s.size
  · have E1 := Hid.mk' (show rtC s.data.toList = 6 by unfold rtC; rw [if_pos (by omega)])
    have E2 := Hid.mk' (show rtT s.data.toList = ⟨0, 0, ⟨#[]⟩, [], false⟩ by unfold rtT; rw [if_pos (by omega)])
    have ci : (160 : Int) < (s.size : Int) := by omega
    have FIN := Hid.mk' (ResP.mk (L := s.data.toList) 6 0 0 ⟨#[]⟩ _ false [] [] E1.out E2.out (OA.nil (w.heap.size + 1) w0) B0.out (by omega))
    go_enter_defers Tryz.func40, Tryz.ntmps40
    go_wp2
    clear hw0
    refine ⟨.agg #[.int .i64 6, .int .i64 0, .int .i64 0, .string ⟨#[]⟩, .slice none 0 0, .bool false], ?_, FIN.out⟩
    simp [results, Tryz.results40, go_sem, d0, d1, d2, d3, d4, d5, d6]
  have ci : ¬ (160 : Int) < (s.size : Int) := by omega
  have es : (⟨s.data.toList.toArray⟩ : ByteArray) = s := ba_ext (by simp)
  have N1 := below_new w0 (.cells #[.string s] 80)
  have RL0 : RL w0.heap.size s.data.toList (w0.alloc (.cells #[.string s] 80)) := by
    refine ⟨_, Deep.blk_alloc_new _ _, rfl, fun i hi => ?_⟩
    obtain rfl : i = 0 := by omega
    rw [es]; rfl
  rw [sz0] at RL0
  have KT := takeTag_any w.heap.size (w.heap.size + 1) s.data.toList tp pv _ (E0.out.keep (N1.mono (by omega))) (by omega) RL0 (by omega)
  have HR1 := Hid.mk' (rowB HR.out N1)
  have B1 := Hid.mk' (B0.out.trans (N1.mono (by omega)))
  have sz1 : (w0.alloc (.cells #[.string s] 80)).heap.size = w.heap.size + 1 + 1 := by simp [sz0]
  clear N1 RL0 E0
  cases hT : tagA s.data.toList with
  | none =>
    have E1 := Hid.mk' (show rtC s.data.toList = 5 by unfold rtC; rw [if_neg (by omega), hT])
    have E2 := Hid.mk' (show rtT s.data.toList = ⟨0, 0, ⟨#[]⟩, [], false⟩ by unfold rtT; rw [if_neg (by omega), hT])
    rw [hT] at KT
    clear hT
    go_enter_defers Tryz.func40, Tryz.ntmps40
    go_wp2_with fail
    clear hw0
    generalize w0.alloc (.cells #[.string s] 80) = w1 at *
    refine KT.mono ?_
    rintro e w2 ⟨rfl, hk⟩
    have R2 := rowK HR1.out hk (.inl (by omega))
    have B2 := Hid.mk' (B1.out.trans (hk.below (by omega) (by omega)))
    clear KT d0 d1 d2 d3 d4 d5 d6 f0 f1 f2 f3 f4 f5
    go_wp2
    refine leaves_cons (f := 45) (args := #[.pointer (some ⟨w.heap.size, 0, none⟩)]) (by simp) (by simp [go_sem]) ?_
    obtain ⟨d0, d1, d2, d3, d4, d5, d6⟩ := cells6 R2
    refine (catch_panic w.heap.size tp pv [] w2 R2).mono ?_
    rintro e u' w3 ⟨rfl, rfl, rfl⟩
    refine ⟨.agg #[.int .i64 5, .int .i64 0, .int .i64 0, .string ⟨#[]⟩, .slice none 0 0, .bool false], ?_, ResP.mk 5 0 0 ⟨#[]⟩ _ false [] [] E1.out E2.out (OA.nil (w.heap.size + 1) w2) B2.out (by omega)⟩
    simp [results, Tryz.results40, go_sem, d0, d1, d2, d3, d4, d5, d6]
  | some t =>
    have E1 := Hid.mk' (show rtC s.data.toList = 0 by unfold rtC; rw [if_neg (by omega), hT])
    have E2 := Hid.mk' (show rtT s.data.toList = t by unfold rtT; rw [if_neg (by omega), hT])
    rw [hT] at KT
    clear hT
    go_enter_defers Tryz.func40, Tryz.ntmps40
    go_wp2_with fail
    clear hw0
    generalize w0.alloc (.cells #[.string s] 80) = w1 at *
    refine KT.mono ?_
    rintro e w2 ⟨⟨v, us, rfl, hOA⟩, hk⟩
    have R2 := rowK HR1.out hk (.inl (by omega))
    have B2 := Hid.mk' (B1.out.trans (hk.below (by omega) (by omega)))
    clear d0 d1 d2 d3 d4 d5 d6 f0 f1 f2 f3 f4 f5
    obtain ⟨d0, d1, d2, d3, d4, d5, d6⟩ := cells6 R2
    have f0 := R2.frozen 0
    have f1 := R2.frozen 1
    have f2 := R2.frozen 2
    have f3 := R2.frozen 3
    have f4 := R2.frozen 4
    have f5 := R2.frozen 5
    obtain ⟨av, cv, rfl, _⟩ := hOA.at
    have HO := Hid.mk' hOA
    clear KT hOA hk R2
    go_wp2
    refine leaves_cons (f := 45) (args := #[.pointer (some ⟨w.heap.size, 0, none⟩)]) (by simp) (by simp [go_sem]) ?_
    refine (catch_idle w.heap.size _).mono ?_
    rintro e u' w3 ⟨rfl, rfl, rfl⟩
    refine ⟨.agg #[.int .i64 0, .int .i64 t.kd, .int .i64 t.by_, .string t.nm, .slice av t.at_.length cv, .bool t.sh], ?_, ResP.mk 0 t.kd t.by_ t.nm _ t.sh t.at_ us E1.out E2.out HO.out B2.out (by omega)⟩
    simp [results, Tryz.results40, go_sem, d0, d1, d2, d3, d4, d5, d6]

end Go.Proofs.YtgkdplooocbonaaGreatDoor
