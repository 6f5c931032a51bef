/-
  'FnExactCommutatorOf' returns true at every input. The tied card: the listed tables of the library hold what its text lays; no other condition.
-/
import Derived.Test.YtahkahmhagoacaaDoorOverCommutatorOf
import Derived.Test.YtahkahmhagoacaaDoorDoorMain
import Derived.Test.YtahkahmhagoacaaDoorDoorLooks
import Derived.Test.YtahkahmhagoacaaDoorDoor
namespace Go.Proofs.YtahkahmhagoacaaDoor
open Go.ChangeShapes Go.WideShapes Go.ChangeAt Go.RowKit
namespace fnExactCommutatorOf
theorem wfText : Rows.fnExactCommutatorOfRow.wfByText (OpenSpec.ofChange Rows.fnExactCommutatorOfSpec) = true := by kernel_rfl
theorem funcIs : Tryd.prog.funcNamed "loop.example/g01260/laws.FnExactCommutatorOf" = some 5 := by kernel_rfl
theorem goesNot : false = Rows.fnExactCommutatorOfRow.goesBy Tryd.pinned.checked.prog := by kernel_rfl
theorem standIns : ([24, 24].all fun u => !Tryd.prog.wantsStandIn u) = true := by kernel_rfl

theorem proved : Rows.FnExactCommutatorOfCardSaid :=
  Claim7.holds_tied_plain_at .later [] Rows.fnExactCommutatorOfCard.laidKinds true Rows.fnExactMultiplySeriesCard.stood.harness Rows.fnExactMultiplySeriesCard.stood.looks
    over (fun _ h => by cases h) wfText (fun _ h => by cases h) fnExactCommutatorOf_row_tie rfl ⟨rfl, rfl⟩ doorMain rfl
    (fun f fn hf hfn => by
      obtain rfl : f = 5 := Option.some.inj (funcIs.symm.trans hf) |>.symm
      obtain rfl : fn = Tryd.f5 := (Option.some.inj (Tryd.func5.symm.trans hfn)).symm
      exact ⟨doorLooks, fun j t ht => by
        rw [Tryd.params5] at ht
        have hm : t ∈ [24, 24] := by simpa using Array.mem_of_getElem? ht
        exact (show Tryd.prog.wantsStandIn t = false by simpa using List.all_eq_true.1 standIns t hm)⟩)
    goesNot
end fnExactCommutatorOf
end Go.Proofs.YtahkahmhagoacaaDoor
