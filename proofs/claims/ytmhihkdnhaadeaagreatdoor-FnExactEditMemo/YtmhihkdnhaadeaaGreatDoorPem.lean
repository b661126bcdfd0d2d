/- The law on EditMemo holds at every argument: the memo that is read again behind an edit, and how much was read, are those of the model; the table of names and the mark of no tag hold what their own initialisers lay. -/
import Derived.Test.YtmhihkdnhaadeaaGreatDoorRows
import Derived.Test.YtmhihkdnhaadeaaGreatDoorG15
import Derived.Test.YtmhihkdnhaadeaaGreatDoorG38
import Derived.Test.YtmhihkdnhaadeaaGreatDoorG39
import Derived.Test.YtmhihkdnhaadeaaGreatDoorG40
import Derived.Test.YtmhihkdnhaadeaaGreatDoorG41
import Derived.ChangeOld
import Derived.ChangeMaps5
import Derived.Test.YtmhihkdnhaadeaaGreatDoorCards
import Derived.Test.YtmhihkdnhaadeaaGreatDoorTie
import Derived.SevenTiedAt
namespace Go.Proofs.YtmhihkdnhaadeaaGreatDoor
open Go.ChangeShapes Go.WideShapes Go.ChangeAt Go.RowKit
set_option linter.unusedVariables false
namespace fnExactEditMemo
set_option maxRecDepth 100000 in
theorem lifted (os : Os) (started : os.Started) (H : Type) (enc : TypeId × Value → H) :
    ReturnsInHanded {} Tryz.checked os 4 .any (fun w args => (Rows.fnExactEditMemoSpec.pre enc Tryz.prog Tryz.f4 [] false w args ∧ laidMetH Tryz.prog laid7 w) ∧ sizedMet enc Tryz.prog Tryz.f4 (OpenSpec.ofChange Rows.fnExactEditMemoSpec) false w args)
      (Rows.fnExactEditMemoSpec.post enc Tryz.prog Tryz.f4 false true false false) := by
  refine returnsInHanded_of_change_and (C := Tryz.checked) (X := fun w _ => laidMetH Tryz.prog laid7 w) (fun _ _ _ hh h => h.of_heap hh) own started (by kernel_rfl) Tryz.func4
    (ChangeSpec.witness_shaped (enc := enc) (C := Tryz.checked) (os := os) (X := fun w _ => laidMetH Tryz.prog laid7 w) false (World.doorLaid Tryz.prog 400 os) #[.agg #[.slice none 0 0, .int .i64 0, .slice none 0 0, .slice none 0 0, .slice none 0 0], .int .i64 0, .int .i64 0, .slice none 0 0] 8 rfl (World.shaped_of_RefB (by kernel_rfl) (by kernel_rfl)) (by kernel_rfl) (by kernel_rfl) (by kernel_rfl) (door_met7 os _)) ?_
  intro W base args ds gs before hval0 hW _ _ hL _
  have hval : ∀ (j : Nat) t v, Tryz.f4.params[j]? = some t → args[j]? = some v → Value.okWide Tryz.prog W .any base t v := hval0
  have hW' := hW
  obtain ⟨p, q, hA0, hV0, rfl, hfz, hnd⟩ := hW
  have hA : DataW.TrodAll enc Tryz.prog W 0 (fun _ => true) true Tryz.f4.params.toList args.toList ds p := hA0
  have hV : DataW.TrodVars enc Tryz.prog W (fun _ => true) ["loop.example/g00606/impl.namedRefs", "loop.example/g00606/impl.errNoTag"] gs q := hV0
  rw [Tryz.params4] at hA hval
  obtain ⟨v0, vs0, d0, ds0, p0, q0, hargs, rfl, rfl, h0, r0⟩ := trodAll_cons hA
  obtain ⟨v1, vs1, d1, ds1, p1, q1, rfl, rfl, rfl, h1, r1⟩ := trodAll_cons r0
  obtain ⟨v2, vs2, d2, ds2, p2, q2, rfl, rfl, rfl, h2, r2⟩ := trodAll_cons r1
  obtain ⟨v3, vs3, d3, ds3, p3, q3, rfl, rfl, rfl, h3, r3⟩ := trodAll_cons r2
  obtain ⟨rfl, rfl, rfl⟩ := trodAll_nil r3
  obtain rfl : args = #[v0, v1, v2, v3] := by cases args; simp_all
  have k0 := h0
  have lt0 : ∀ x ∈ p0, x.block < W.heap.size := by obtain ⟨m, hm⟩ := k0; exact DataW.trod_lt m _ _ _ hm
  obtain ⟨m0, a0, t0, u0, c0, ca0, ct0, cu0, cc0, rfl, ha0, hw0, hx0, hy0, hk0, ht0, hz0, hq0⟩ := open_memoZ (hval 0 26 v0 rfl rfl) h0
  obtain ⟨n1, rfl, rfl, rfl, wf1⟩ := open_int Tryz.underlying2 (hval 1 2 v1 rfl rfl) h1
  have bd1 := bounds_i64 wf1
  obtain ⟨n2, rfl, rfl, rfl, wf2⟩ := open_int Tryz.underlying2 (hval 2 2 v2 rfl rfl) h2
  have bd2 := bounds_i64 wf2
  have k3 := h3
  have lt3 : ∀ x ∈ p3, x.block < W.heap.size := by obtain ⟨m, hm⟩ := k3; exact DataW.trod_lt m _ _ _ hm
  obtain ⟨a3, c3, l3, rfl, hb3, mb3, hu3⟩ := open_bytesBV (hval 3 22 v3 rfl rfl) h3
  have hL := plain7 _ hL
  have hvar := refs7 hL
  obtain ⟨tp, pv, htag⟩ := tag7 hL
  obtain ⟨g, t, cs, fuel, d, p', g1, t1, cs1, f1, d1, p1, rfl, hg, ht, hvar', hd, hg1, ht1, hv1, hd1, rfl⟩ := trodVars_two hV
  obtain rfl := Option.some.inj (gTag.symm.trans hg1)
  obtain rfl := Option.some.inj (tTag.symm.trans ht1)
  obtain rfl := Option.some.inj (htag.symm.trans hv1)
  obtain rfl := Option.some.inj (gRef.symm.trans hg)
  obtain rfl := Option.some.inj (tRef.symm.trans ht)
  obtain rfl := Option.some.inj (hvar.symm.trans hvar')
  obtain ⟨rfl, rfl⟩ := DataW.Trod.unique (v := .agg cells8.toArray) ⟨fuel, hd⟩ ⟨4, reads_cells8 enc W _⟩
  obtain ⟨x1, ex1, hx1, rfl, rfl, _⟩ := token_of gTag Tryz.underlying185 htag hd1
  obtain rfl : x1 = .iface tp pv := by simpa using ex1.symm
  clear hA0 hV0 hval0
  refine (lawEM_any m0 a0 t0 u0 c0 ca0 ct0 cu0 cc0 n1 n2 a3 c3 l3 tp pv W (env7 hL htag) ha0 hw0 hx0 hk0 ht0 hy0 bd1.1 bd1.2 bd2.1 bd2.2 hb3 hu3 mb3).mono fun e W' ⟨he, bel⟩ => ?_
  subst he
  have hvars : ∀ sp : Nat → Bool, DataW.TrodVars enc Tryz.prog W' sp ["loop.example/g00606/impl.namedRefs", "loop.example/g00606/impl.errNoTag"] [Rows.laid_loop_example_g00606_impl_namedRefs, tok enc (.iface tp pv)] (MemPlace.row ⟨2, 0, none⟩ cells8.toArray.size ++ [] ++ (MemPlace.row ⟨1, 0, none⟩ (#[Value.iface tp pv] : Array Value).size ++ [] ++ [])) := fun sp =>
    ⟨2, 193, cells8.toArray, 4, [], _, gRef, tRef, var_below hvar bel, reads_cells8 enc W' _, ⟨1, 185, #[.iface tp pv], 1, [], [], gTag, tTag, var_kept gTag htag bel, trod_held Tryz.underlying185 hx1 0, rfl, rfl⟩, rfl⟩
  refine ⟨_, rfl, _, _, _, [], _, _, hW', trodAll_mk1 (shut_bool Tryz.underlying4 _), (trodAll_cons_mk (Below.trod laidOut (by kernel_rfl) (of_decide_eq_true (by kernel_rfl)) k0 bel lt0) (trodAll_cons_mk (shut_int Tryz.underlying2 wf1) (trodAll_cons_mk (shut_int Tryz.underlying2 wf2) (trodAll_cons_mk (Below.trod laidOut (by kernel_rfl) (of_decide_eq_true (by kernel_rfl)) k3 bel lt3) trodAll_mk0)))), hvars _, bel.frame _, fun h => by cases h⟩

theorem row_holds : Rows.FnExactEditMemoSaid :=
  OpenClaim.holds_of_wide 4 Tryz.f4 rfl rfl rfl rfl rfl rfl rfl ⟨rfl, rfl, rfl, rfl, rfl⟩ rfl rfl rfl rfl rfl (by kernel_rfl) Tryz.func4 closed_fnExactEditMemo
    (of_decide_eq_true (by kernel_rfl)) (by unfold Func.isWrapper; first | (rw [if_pos (by decide +kernel)]; kernel_rfl) | (rw [if_neg (by decide +kernel)]; exact ⟨rfl, rfl⟩))
    (fun os started H enc _ => lifted os started H enc)

end fnExactEditMemo

/-- THE STATEMENT. -/
theorem fnExactEditMemo_holds : Rows.FnExactEditMemoCardSaid :=
  Claim7.holds_tied_plain_at .later [] [.data, .data, .data, .sentinel, .sentinel, .data, .sentinel] true (true, "a3bea0ad31b2177721bf8ce1508ed083dbf7dffb317c762d859c87a72fac3d28") true
    fnExactEditMemo.row_holds (fun _ h => by cases h) (by kernel_rfl) (fun _ h => by cases h) fnExactEditMemo_row_tie rfl ⟨rfl, rfl⟩ (by kernel_rfl) rfl
    (fun f fn hf hfn => by
      obtain rfl : f = 4 := Option.some.inj ((show Tryz.prog.funcNamed "loop.example/g00606/laws.FnExactEditMemo" = some 4 by kernel_rfl).symm.trans hf) |>.symm
      obtain rfl : fn = Tryz.f4 := (Option.some.inj (Tryz.func4.symm.trans hfn)).symm
      exact ⟨by kernel_rfl, fun j t ht => by
        rw [Tryz.params4] at ht
        have hm : t ∈ [26, 2, 2, 22] := by simpa using Array.mem_of_getElem? ht
        have hall : ([26, 2, 2, 22].all fun u => !Tryz.prog.wantsStandIn u) = true := by kernel_rfl
        exact (show Tryz.prog.wantsStandIn t = false by simpa using List.all_eq_true.1 hall t hm)⟩)
    (by kernel_rfl)
#print axioms fnExactEditMemo_holds
end Go.Proofs.YtmhihkdnhaadeaaGreatDoor
