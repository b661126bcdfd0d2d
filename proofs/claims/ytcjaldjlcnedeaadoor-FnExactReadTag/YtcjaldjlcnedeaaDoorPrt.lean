/- Proved: whatever the text, the law on ReadTag returns true and its argument reads as it did: program and model answer alike, and the answer owns its memory, behind another call too. Its condition: the listed variables hold what their own initialisers lay (a tied card). -/
import Derived.Test.YtcjaldjlcnedeaaDoorRows
import Derived.Test.YtcjaldjlcnedeaaDoorVc
import Derived.Test.YtcjaldjlcnedeaaDoorZm
import Derived.ChangeOld
import Derived.ChangeMaps5
import Derived.Test.YtcjaldjlcnedeaaDoorCards
import Derived.Test.YtcjaldjlcnedeaaDoorTie
import Derived.SevenTiedAt
namespace Go.Proofs.YtcjaldjlcnedeaaDoor
open Go.ChangeShapes Go.WideShapes Go.ChangeAt Go.RowKit
set_option linter.unusedVariables false
namespace fnExactReadTag
set_option maxRecDepth 100000 in
theorem lifted (os : Os) (started : os.Started) (H : Type) (enc : TypeId × Value → H) :
    ReturnsInHanded {} Tryd.checked os 3 .any (fun w args => (Rows.fnExactReadTagSpec.pre enc Tryd.prog Tryd.f3 [] false w args ∧ laidMetH Tryd.prog laid7 w) ∧ sizedMet enc Tryd.prog Tryd.f3 (OpenSpec.ofChange Rows.fnExactReadTagSpec) false w args)
      (Rows.fnExactReadTagSpec.post enc Tryd.prog Tryd.f3 false true false false) := by
  refine returnsInHanded_of_change_and (C := Tryd.checked) (X := fun w _ => laidMetH Tryd.prog laid7 w) (fun _ _ _ hh h => h.of_heap hh) own started (by kernel_rfl) Tryd.func3
    (ChangeSpec.witness_shaped (enc := enc) (C := Tryd.checked) (os := os) (X := fun w _ => laidMetH Tryd.prog laid7 w) false (World.doorLaid Tryd.prog 400 os) #[.string ⟨#[]⟩] 8 rfl (World.shaped_of_RefB (by kernel_rfl) (by kernel_rfl)) (by kernel_rfl) (by kernel_rfl) (by kernel_rfl) (door_met7 os _)) ?_
  intro W base args ds gs before hval0 hW _ _ hL _
  have hval : ∀ (j : Nat) t v, Tryd.f3.params[j]? = some t → args[j]? = some v → Value.okWide Tryd.prog W .any base t v := hval0
  have hW' := hW
  obtain ⟨p, q, hA0, hV0, rfl, hfz, hnd⟩ := hW
  have hA : DataW.TrodAll enc Tryd.prog W 0 (fun _ => true) true Tryd.f3.params.toList args.toList ds p := hA0
  have hV : DataW.TrodVars enc Tryd.prog W (fun _ => true) ["loop.example/g00606/impl.errNoTag", "loop.example/g00606/impl.namedRefs"] gs q := hV0
  rw [Tryd.params3] at hA hval
  obtain ⟨v0, d0, rfl, rfl, h0⟩ := trodAll_one hA
  obtain ⟨s0, rfl, rfl, rfl, ws0⟩ := Go.ChangeMaps.open_string Tryd.underlying9 (hval 0 9 v0 rfl rfl) h0
  have hL := plain7 _ hL
  have hvar := refs7 hL
  obtain ⟨tp, pv, htag⟩ := tag7 hL
  obtain ⟨g1, t1, cs1, f1, d1, p1, g, t, cs, fuel, d, p', rfl, hg1, ht1, hv1, hd1, hg, ht, hvar', hd, rfl⟩ := trodVars_two hV
  obtain rfl := Option.some.inj (gTag.symm.trans hg1)
  obtain rfl := Option.some.inj (tTag.symm.trans ht1)
  obtain rfl := Option.some.inj (htag.symm.trans hv1)
  obtain rfl := Option.some.inj (gRef.symm.trans hg)
  obtain rfl := Option.some.inj (tRef.symm.trans ht)
  obtain rfl := Option.some.inj (hvar.symm.trans hvar')
  obtain ⟨rfl, rfl⟩ := DataW.Trod.unique (v := .agg cells8.toArray) ⟨fuel, hd⟩ ⟨4, reads_cells8 enc W _⟩
  obtain ⟨x1, ex1, hx1, rfl, rfl, _⟩ := token_of gTag Tryd.underlying66 htag hd1
  obtain rfl : x1 = .iface tp pv := by simpa using ex1.symm
  clear hA0 hV0 hval0
  refine (lawReadTag_any s0 tp pv W (env7 hL htag) (by unfold maxLen at ws0; omega)).mono fun e W' ⟨he, bel⟩ => ?_
  subst he
  have hvars : ∀ sp : Nat → Bool, DataW.TrodVars enc Tryd.prog W' sp ["loop.example/g00606/impl.errNoTag", "loop.example/g00606/impl.namedRefs"] [tok enc (.iface tp pv), Rows.laid_loop_example_g00606_impl_namedRefs] (MemPlace.row ⟨0, 0, none⟩ (#[Value.iface tp pv] : Array Value).size ++ [] ++ (MemPlace.row ⟨1, 0, none⟩ cells8.toArray.size ++ [] ++ [])) := fun sp =>
    ⟨0, 66, #[.iface tp pv], 1, [], _, gTag, tTag, var_kept gTag htag bel, trod_held Tryd.underlying66 hx1 0, ⟨1, 108, cells8.toArray, 4, [], [], gRef, tRef, var_below hvar bel, reads_cells8 enc W' _, rfl, rfl⟩, rfl⟩
  refine ⟨_, rfl, _, _, _, [], _, _, hW', trodAll_mk1 (shut_bool Tryd.underlying4 _), trodAll_mk1 (Go.ChangeMaps.shut_string Tryd.underlying9 ws0), hvars _, bel.frame _, fun h => by cases h⟩

theorem row_holds : Rows.FnExactReadTagSaid :=
  OpenClaim.holds_of_wide 3 Tryd.f3 rfl rfl rfl rfl rfl rfl rfl ⟨rfl, rfl, rfl, rfl, rfl⟩ rfl rfl rfl rfl rfl (by kernel_rfl) Tryd.func3 (by kernel_rfl)
    (of_decide_eq_true (by kernel_rfl)) (by unfold Func.isWrapper; first | (rw [if_pos (by decide +kernel)]; kernel_rfl) | (rw [if_neg (by decide +kernel)]; exact ⟨rfl, rfl⟩))
    (fun os started H enc _ => lifted os started H enc)

end fnExactReadTag

/-- THE STATEMENT. -/
theorem fnExactReadTag_holds : Rows.FnExactReadTagCardSaid :=
  Claim7.holds_tied_plain_at .later [] [.data, .data, .data, .sentinel, .sentinel, .data, .sentinel] true (true, "669faf064fc66d619a91b40a777aec9871758fe565f58c71d39acefb8a02469c") true
    fnExactReadTag.row_holds (fun _ h => by cases h) (by kernel_rfl) (fun _ h => by cases h) fnExactReadTag_row_tie rfl ⟨rfl, rfl⟩ (by kernel_rfl) rfl
    (fun f fn hf hfn => by
      obtain rfl : f = 3 := Option.some.inj ((show Tryd.prog.funcNamed "loop.example/g00606/laws.FnExactReadTag" = some 3 by kernel_rfl).symm.trans hf) |>.symm
      obtain rfl : fn = Tryd.f3 := (Option.some.inj (Tryd.func3.symm.trans hfn)).symm
      exact ⟨by kernel_rfl, fun j t ht => by
        rw [Tryd.params3] at ht
        have hm : t ∈ [9] := by simpa using Array.mem_of_getElem? ht
        have hall : ([9].all fun u => !Tryd.prog.wantsStandIn u) = true := by kernel_rfl
        exact (show Tryd.prog.wantsStandIn t = false by simpa using List.all_eq_true.1 hall t hm)⟩)
    (by kernel_rfl)
#print axioms fnExactReadTag_holds
end Go.Proofs.YtcjaldjlcnedeaaDoor
