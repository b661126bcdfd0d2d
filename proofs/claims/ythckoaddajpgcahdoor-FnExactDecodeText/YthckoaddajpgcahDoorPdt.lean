/- Proved: at every text DecodeText answers as its model, field by field; its answer owns its memory, behind another call too. Its condition: the listed variables hold what their own initialisers lay (a tied card). -/
import Derived.Test.YthckoaddajpgcahDoorVb
import Derived.Test.YthckoaddajpgcahDoorDd
import Derived.ShutString
import Derived.ChangeOld
import Derived.ChangeMaps5
import Derived.Lib.SmallJoins
import Derived.Deep.SlicePairs
import Derived.Test.YthckoaddajpgcahDoorCards
import Derived.Test.YthckoaddajpgcahDoorTie
import Derived.SevenTiedAt
namespace Go.Proofs.YthckoaddajpgcahDoor
open Go.ChangeShapes Go.WideShapes Go.ChangeAt Go.RowKit Go.ChangeMaps
set_option linter.unusedVariables false
namespace decodeText
set_option maxRecDepth 100000 in
theorem lifted (os : Os) (started : os.Started) (H : Type) (enc : TypeId × Value → H) :
    ReturnsInHanded {} Tryd.checked os 6 .any (fun w args => (Rows.fnExactDecodeTextSpec.pre enc Tryd.prog Tryd.f6 [] false w args ∧ laidMetH Tryd.prog laid6 w) ∧ sizedMet enc Tryd.prog Tryd.f6 (OpenSpec.ofChange Rows.fnExactDecodeTextSpec) false w args)
      (Rows.fnExactDecodeTextSpec.post enc Tryd.prog Tryd.f6 false true false false) := by
  refine returnsInHanded_of_change_and (C := Tryd.checked) (X := fun w _ => laidMetH Tryd.prog laid6 w) (fun _ _ _ hh h => h.of_heap hh) own started (by kernel_rfl) Tryd.func6
    (ChangeSpec.witness_shaped (enc := enc) (C := Tryd.checked) (os := os) (X := fun w _ => laidMetH Tryd.prog laid6 w) false (World.doorLaid Tryd.prog 400 os) #[.string ⟨#[]⟩] 8 rfl (World.shaped_of_RefB (by kernel_rfl) (by kernel_rfl)) (by kernel_rfl) (by kernel_rfl) (by kernel_rfl) (door_met6 os _)) ?_
  intro W base args ds gs before hval0 hW _ _ hL _
  have hval : ∀ (j : Nat) t v, Tryd.f6.params[j]? = some t → args[j]? = some v → Value.okWide Tryd.prog W .any base t v := hval0
  have hW' := hW
  obtain ⟨p, q, hA0, hV0, rfl, hfz, hnd⟩ := hW
  have hA : DataW.TrodAll enc Tryd.prog W 0 (fun _ => true) true Tryd.f6.params.toList args.toList ds p := hA0
  have hV : DataW.TrodVars enc Tryd.prog W (fun _ => true) ["loop.example/g00606/impl.namedRefs"] gs q := hV0
  rw [Tryd.params6] at hA hval
  obtain ⟨v0, vs0, d0, ds0, p0, q0, hargs, rfl, rfl, h0, r0⟩ := trodAll_cons hA
  obtain ⟨rfl, rfl, rfl⟩ := trodAll_nil r0
  obtain rfl : args = #[v0] := by cases args; simp_all
  obtain ⟨s0, rfl, rfl, rfl, ws0⟩ := open_string Tryd.underlying9 (hval 0 9 v0 rfl rfl) h0
  have hL := plain6 _ hL
  have hvar := refs6 hL
  obtain ⟨g, t, cs, fuel, d, p', rfl, hg, ht, hvar', hd, rfl⟩ := trodVars_one hV
  obtain rfl := Option.some.inj (gRef.symm.trans hg)
  obtain rfl := Option.some.inj (tRef.symm.trans ht)
  obtain rfl := Option.some.inj (hvar.symm.trans hvar')
  obtain ⟨rfl, rfl⟩ := DataW.Trod.unique (v := .agg cells8.toArray) ⟨fuel, hd⟩ ⟨4, reads_cells8 enc W _⟩
  clear hA0 hV0 hval0
  refine (lawDT_any s0 W (by unfold maxLen at ws0; omega) (refs_of_var hvar) (errs_of hL)).mono fun e W' ⟨he, bel⟩ => ?_
  subst he
  have hvars : ∀ sp : Nat → Bool, DataW.TrodVars enc Tryd.prog W' sp ["loop.example/g00606/impl.namedRefs"] [Rows.laid_loop_example_g00606_impl_namedRefs] (MemPlace.row ⟨0, 0, none⟩ cells8.toArray.size ++ [] ++ []) := fun sp =>
    ⟨0, 63, cells8.toArray, 4, [], [], gRef, tRef, var_below hvar bel, reads_cells8 enc W' _, rfl, rfl⟩
  refine ⟨_, rfl, _, _, _, [], _, _, hW', trodAll_mk1 (shut_bool Tryd.underlying4 _), (trodAll_cons_mk (shut_string Tryd.underlying9 ws0) trodAll_mk0), hvars _, bel.frame _, fun h => by cases h⟩

theorem row_holds : Rows.FnExactDecodeTextSaid :=
  OpenClaim.holds_of_wide 6 Tryd.f6 rfl rfl rfl rfl rfl rfl rfl ⟨rfl, rfl, rfl, rfl, rfl⟩ rfl rfl rfl rfl rfl (by kernel_rfl) Tryd.func6 (by kernel_rfl)
    (of_decide_eq_true (by kernel_rfl)) (by unfold Func.isWrapper; first | (rw [if_pos (by decide +kernel)]; kernel_rfl) | (rw [if_neg (by decide +kernel)]; exact ⟨rfl, rfl⟩))
    (fun os started H enc _ => lifted os started H enc)

end decodeText

/-- THE STATEMENT. -/
theorem fnExactDecodeText_holds : Rows.FnExactDecodeTextCardSaid :=
  Claim7.holds_tied_plain_at .later [] [.data, .data, .data, .sentinel, .sentinel, .data] true (true, "58df92f2809c21b013e114a23d63faf0640857f1b5dbdb64ba9223061e23fd93") true
    decodeText.row_holds (fun _ h => by cases h) (by kernel_rfl) (fun _ h => by cases h) fnExactDecodeText_row_tie rfl ⟨rfl, rfl⟩ (by kernel_rfl) rfl
    (fun f fn hf hfn => by
      obtain rfl : f = 6 := Option.some.inj ((show Tryd.prog.funcNamed "loop.example/g00606/laws.FnExactDecodeText" = some 6 by kernel_rfl).symm.trans hf) |>.symm
      obtain rfl : fn = Tryd.f6 := (Option.some.inj (Tryd.func6.symm.trans hfn)).symm
      exact ⟨by kernel_rfl, fun j t ht => by
        rw [Tryd.params6] at ht
        have hm : t ∈ [9] := by simpa using Array.mem_of_getElem? ht
        have hall : ([9].all fun u => !Tryd.prog.wantsStandIn u) = true := by kernel_rfl
        exact (show Tryd.prog.wantsStandIn t = false by simpa using List.all_eq_true.1 hall t hm)⟩)
    (by kernel_rfl)
#print axioms fnExactDecodeText_holds
end Go.Proofs.YthckoaddajpgcahDoor
