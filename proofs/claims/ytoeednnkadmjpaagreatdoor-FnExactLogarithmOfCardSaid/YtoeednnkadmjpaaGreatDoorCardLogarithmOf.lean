/-
  'FnExactLogarithmOf' returns true at every input. The tied card: the listed tables of the library hold what its text lays; no other condition.
-/
import Derived.Test.YtoeednnkadmjpaaGreatDoorOverLogarithmOf
import Derived.Test.YtoeednnkadmjpaaGreatDoorDoorMain
import Derived.Test.YtoeednnkadmjpaaGreatDoorDoor
namespace Go.Proofs.YtoeednnkadmjpaaGreatDoor
open Go.ChangeShapes Go.WideShapes Go.ChangeAt Go.RowKit
namespace fnExactLogarithmOf
theorem wfText : Rows.fnExactLogarithmOfRow.wfByText (OpenSpec.ofChange Rows.fnExactLogarithmOfSpec) = true := by kernel_rfl
theorem funcIs : Tryz.prog.funcNamed "loop.example/g01260/laws.FnExactLogarithmOf" = some 5 := by kernel_rfl
theorem goesNot : false = Rows.fnExactLogarithmOfRow.goesBy Tryz.pinned.checked.prog := by kernel_rfl
theorem standIns : ([24].all fun u => !Tryz.prog.wantsStandIn u) = true := by kernel_rfl

theorem proved : Rows.FnExactLogarithmOfCardSaid :=
  Claim7.holds_tied_plain_at .later [] Rows.fnExactLogarithmOfCard.laidKinds true Rows.fnExactInverseSeriesCard.stood.harness Rows.fnExactInverseSeriesCard.stood.looks
    over (fun _ h => by cases h) wfText (fun _ h => by cases h) fnExactLogarithmOf_row_tie rfl ⟨rfl, rfl⟩ doorMain rfl
    (fun f fn hf hfn => by
      obtain rfl : f = 5 := Option.some.inj (funcIs.symm.trans hf) |>.symm
      obtain rfl : fn = Tryz.f5 := (Option.some.inj (Tryz.func5.symm.trans hfn)).symm
      exact ⟨doorLooks, fun j t ht => by
        rw [Tryz.params5] at ht
        have hm : t ∈ [24] := by simpa using Array.mem_of_getElem? ht
        exact (show Tryz.prog.wantsStandIn t = false by simpa using List.all_eq_true.1 standIns t hm)⟩)
    goesNot
end fnExactLogarithmOf
end Go.Proofs.YtoeednnkadmjpaaGreatDoor
