/-
  'FnExactMultiplyCoordinates' returns true at every input. The tied card: the listed tables of the library hold what its text lays; no other condition.
-/
import Derived.Test.YtgcjpenlcokgjaaGreatDoorOverMultiplyCoordinates
import Derived.Test.YtgcjpenlcokgjaaGreatDoorDoorMake
namespace Go.Proofs.YtgcjpenlcokgjaaGreatDoor
open Go.ChangeShapes Go.WideShapes Go.ChangeAt Go.RowKit
namespace fnExactMultiplyCoordinates
theorem wfText : Rows.fnExactMultiplyCoordinatesRow.wfByText (OpenSpec.ofChange Rows.fnExactMultiplyCoordinatesSpec) = true := by kernel_rfl
theorem funcIs : Tryz.prog.funcNamed "loop.example/g01260/laws.FnExactMultiplyCoordinates" = some 7 := by kernel_rfl
theorem goesNot : false = Rows.fnExactMultiplyCoordinatesRow.goesBy Tryz.pinned.checked.prog := by kernel_rfl
theorem standIns : ([2, 2, 22, 22].all fun u => !Tryz.prog.wantsStandIn u) = true := by kernel_rfl

theorem proved : Rows.FnExactMultiplyCoordinatesCardSaid :=
  Claim7.holds_tied_plain_at .later [] Rows.fnExactMultiplyCoordinatesCard.laidKinds true Rows.fnExactSeriesOfCoordinatesCard.stood.harness Rows.fnExactSeriesOfCoordinatesCard.stood.looks
    over (fun _ h => by cases h) wfText (fun _ h => by cases h) fnExactMultiplyCoordinates_row_tie rfl ⟨rfl, rfl⟩ doorMain rfl
    (fun f fn hf hfn => by
      obtain rfl : f = 7 := Option.some.inj (funcIs.symm.trans hf) |>.symm
      obtain rfl : fn = Tryz.f7 := (Option.some.inj (Tryz.func7.symm.trans hfn)).symm
      exact ⟨doorLooks, fun j t ht => by
        rw [Tryz.params7] at ht
        have hm : t ∈ [2, 2, 22, 22] := by simpa using Array.mem_of_getElem? ht
        exact (show Tryz.prog.wantsStandIn t = false by simpa using List.all_eq_true.1 standIns t hm)⟩)
    goesNot
end fnExactMultiplyCoordinates
end Go.Proofs.YtgcjpenlcokgjaaGreatDoor
