/-
  'FnExactLieCoordinates' returns true at every input. The tied card: the listed tables of the library hold what its text lays; no other condition.
-/
import Derived.Test.YtgcjpenlcokgjaaGreatDoorOverLieCoordinates
import Derived.Test.YtgcjpenlcokgjaaGreatDoorDoorMake
namespace Go.Proofs.YtgcjpenlcokgjaaGreatDoor
open Go.ChangeShapes Go.WideShapes Go.ChangeAt Go.RowKit
namespace fnExactLieCoordinates
theorem wfText : Rows.fnExactLieCoordinatesRow.wfByText (OpenSpec.ofChange Rows.fnExactLieCoordinatesSpec) = true := by kernel_rfl
theorem funcIs : Tryz.prog.funcNamed "loop.example/g01260/laws.FnExactLieCoordinates" = some 5 := by kernel_rfl
theorem goesNot : false = Rows.fnExactLieCoordinatesRow.goesBy Tryz.pinned.checked.prog := by kernel_rfl
theorem standIns : ([36].all fun u => !Tryz.prog.wantsStandIn u) = true := by kernel_rfl

theorem proved : Rows.FnExactLieCoordinatesCardSaid :=
  Claim7.holds_tied_plain_at .later [] Rows.fnExactLieCoordinatesCard.laidKinds true Rows.fnExactSeriesOfCoordinatesCard.stood.harness Rows.fnExactSeriesOfCoordinatesCard.stood.looks
    over (fun _ h => by cases h) wfText (fun _ h => by cases h) fnExactLieCoordinates_row_tie rfl ⟨rfl, rfl⟩ doorMain rfl
    (fun f fn hf hfn => by
      obtain rfl : f = 5 := Option.some.inj (funcIs.symm.trans hf) |>.symm
      obtain rfl : fn = Tryz.f5 := (Option.some.inj (Tryz.func5.symm.trans hfn)).symm
      exact ⟨doorLooks, fun j t ht => by
        rw [Tryz.params5] at ht
        have hm : t ∈ [36] := by simpa using Array.mem_of_getElem? ht
        exact (show Tryz.prog.wantsStandIn t = false by simpa using List.all_eq_true.1 standIns t hm)⟩)
    goesNot
end fnExactLieCoordinates
end Go.Proofs.YtgcjpenlcokgjaaGreatDoor
