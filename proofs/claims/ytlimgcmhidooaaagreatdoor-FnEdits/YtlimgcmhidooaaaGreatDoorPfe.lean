/- The law FnEdits answers true at every input (bytes that draw its arguments), and leaves the bytes as they were. -/
import Derived.Test.YtlimgcmhidooaaaGreatDoorRows
import Derived.Test.YtlimgcmhidooaaaGreatDoorM15
import Derived.Test.YtlimgcmhidooaaaGreatDoorM35
import Derived.Test.YtlimgcmhidooaaaGreatDoorM36
import Derived.Test.YtlimgcmhidooaaaGreatDoorM37
import Derived.ChangeOld
import Derived.ChangeMaps5
import Derived.Test.YtlimgcmhidooaaaGreatDoorCards
import Derived.Test.YtlimgcmhidooaaaGreatDoorTie
import Derived.SevenTiedAt
namespace Go.Proofs.YtlimgcmhidooaaaGreatDoor
open Go.ChangeShapes Go.WideShapes Go.ChangeAt Go.RowKit
set_option linter.unusedVariables false
namespace fnEdits
set_option maxRecDepth 100000 in
theorem lifted (os : Os) (started : os.Started) (H : Type) (enc : TypeId × Value → H) :
    ReturnsInHanded {} Tryz.checked os 6 .any (fun w args => (Rows.fnEditsSpec.pre enc Tryz.prog Tryz.f6 [] false w args ∧ laidMetH Tryz.prog laid7 w) ∧ sizedMet enc Tryz.prog Tryz.f6 (OpenSpec.ofChange Rows.fnEditsSpec) false w args)
      (Rows.fnEditsSpec.post enc Tryz.prog Tryz.f6 false true false false) := by
  refine returnsInHanded_of_change_and (C := Tryz.checked) (X := fun w _ => laidMetH Tryz.prog laid7 w) (fun _ _ _ hh h => h.of_heap hh) own started (by kernel_rfl) Tryz.func6
    (ChangeSpec.witness_shaped (enc := enc) (C := Tryz.checked) (os := os) (X := fun w _ => laidMetH Tryz.prog laid7 w) false (World.doorLaid Tryz.prog 400 os) #[.slice none 0 0] 8 rfl (World.shaped_of_RefB (by kernel_rfl) (by kernel_rfl)) (by kernel_rfl) (by kernel_rfl) (by kernel_rfl) (door_met7 os _)) ?_
  intro W base args ds gs before hval0 hW _ _ hL _
  have hval : ∀ (j : Nat) t v, Tryz.f6.params[j]? = some t → args[j]? = some v → Value.okWide Tryz.prog W .any base t v := hval0
  have hW' := hW
  obtain ⟨p, q, hA0, hV0, rfl, hfz, hnd⟩ := hW
  have hA : DataW.TrodAll enc Tryz.prog W 0 (fun _ => true) true Tryz.f6.params.toList args.toList ds p := hA0
  have hV : DataW.TrodVars enc Tryz.prog W (fun _ => true) ["loop.example/g00606/impl.namedRefs", "loop.example/g00606/impl.errNoTag"] gs q := hV0
  rw [Tryz.params6] at hA hval
  obtain ⟨v0, d0, rfl, rfl, h0⟩ := trodAll_one hA
  have k0 := h0
  have lt0 : ∀ x ∈ p, x.block < W.heap.size := by obtain ⟨m, hm⟩ := k0; exact DataW.trod_lt m _ _ _ hm
  obtain ⟨a0, c0, l0, rfl, hb0, mb0, hu0⟩ := open_bytesBV (hval 0 22 v0 rfl rfl) h0
  have hL := plain7 _ hL
  have hvar := refs7 hL
  obtain ⟨tp, pv, htag⟩ := tag7 hL
  obtain ⟨g, t, cs, fuel, d, p', g1, t1, cs1, f1, d1, p1, rfl, hg, ht, hvar', hd, hg1, ht1, hv1, hd1, rfl⟩ := trodVars_two hV
  obtain rfl := Option.some.inj (gTag.symm.trans hg1)
  obtain rfl := Option.some.inj (tTag.symm.trans ht1)
  obtain rfl := Option.some.inj (htag.symm.trans hv1)
  obtain rfl := Option.some.inj (gRef.symm.trans hg)
  obtain rfl := Option.some.inj (tRef.symm.trans ht)
  obtain rfl := Option.some.inj (hvar.symm.trans hvar')
  obtain ⟨rfl, rfl⟩ := DataW.Trod.unique (v := .agg cells8.toArray) ⟨fuel, hd⟩ ⟨4, reads_cells8 enc W _⟩
  obtain ⟨x1, ex1, hx1, rfl, rfl, _⟩ := token_of gTag Tryz.underlying180 htag hd1
  obtain rfl : x1 = .iface tp pv := by simpa using ex1.symm
  clear hA0 hV0 hval0
  refine (lawFE_any a0 c0 l0 tp pv W (env7 hL htag) hb0 hu0 mb0).mono fun e W' ⟨he, bel⟩ => ?_
  subst he
  have hvars : ∀ sp : Nat → Bool, DataW.TrodVars enc Tryz.prog W' sp ["loop.example/g00606/impl.namedRefs", "loop.example/g00606/impl.errNoTag"] [Rows.laid_loop_example_g00606_impl_namedRefs, tok enc (.iface tp pv)] (MemPlace.row ⟨2, 0, none⟩ cells8.toArray.size ++ [] ++ (MemPlace.row ⟨1, 0, none⟩ (#[Value.iface tp pv] : Array Value).size ++ [] ++ [])) := fun sp =>
    ⟨2, 192, cells8.toArray, 4, [], _, gRef, tRef, var_below hvar bel, reads_cells8 enc W' _, ⟨1, 180, #[.iface tp pv], 1, [], [], gTag, tTag, var_kept gTag htag bel, trod_held Tryz.underlying180 hx1 0, rfl, rfl⟩, rfl⟩
  refine ⟨_, rfl, _, _, _, [], _, _, hW', trodAll_mk1 (shut_bool Tryz.underlying4 _), trodAll_mk1 (Below.trod laidOut (by kernel_rfl) (of_decide_eq_true (by kernel_rfl)) k0 bel lt0), hvars _, bel.frame _, fun h => by cases h⟩

theorem row_holds : Rows.FnEditsSaid :=
  OpenClaim.holds_of_wide 6 Tryz.f6 rfl rfl rfl rfl rfl rfl rfl ⟨rfl, rfl, rfl, rfl, rfl⟩ rfl rfl rfl rfl rfl (by kernel_rfl) Tryz.func6 closed_fnEdits
    (of_decide_eq_true (by kernel_rfl)) (by unfold Func.isWrapper; first | (rw [if_pos (by decide +kernel)]; kernel_rfl) | (rw [if_neg (by decide +kernel)]; exact ⟨rfl, rfl⟩))
    (fun os started H enc _ => lifted os started H enc)

end fnEdits

/-- THE STATEMENT. -/
theorem fnEdits_holds : Rows.FnEditsCardSaid :=
  Claim7.holds_tied_plain_at .later [] [.data, .data, .data, .sentinel, .sentinel, .data, .sentinel] true (true, "b71a13b217f86dd04e7c07cd3e35d59ff54e342abd126186f82f53cdcb59b639") true
    fnEdits.row_holds (fun _ h => by cases h) (by kernel_rfl) (fun _ h => by cases h) fnEdits_row_tie rfl ⟨rfl, rfl⟩ (by kernel_rfl) rfl
    (fun f fn hf hfn => by
      obtain rfl : f = 6 := Option.some.inj ((show Tryz.prog.funcNamed "loop.example/g00606/laws.FnEdits" = some 6 by kernel_rfl).symm.trans hf) |>.symm
      obtain rfl : fn = Tryz.f6 := (Option.some.inj (Tryz.func6.symm.trans hfn)).symm
      exact ⟨by kernel_rfl, fun j t ht => by
        rw [Tryz.params6] at ht
        have hm : t ∈ [22] := by simpa using Array.mem_of_getElem? ht
        have hall : ([22].all fun u => !Tryz.prog.wantsStandIn u) = true := by kernel_rfl
        exact (show Tryz.prog.wantsStandIn t = false by simpa using List.all_eq_true.1 hall t hm)⟩)
    (by kernel_rfl)
#print axioms fnEdits_holds
end Go.Proofs.YtlimgcmhidooaaaGreatDoor
