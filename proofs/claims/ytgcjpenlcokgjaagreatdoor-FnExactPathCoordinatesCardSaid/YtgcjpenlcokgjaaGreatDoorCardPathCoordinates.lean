/-
  'FnExactPathCoordinates' returns true at every input. The tied card: the listed tables of the library hold what its text lays; no other condition.
-/
import Derived.Test.YtgcjpenlcokgjaaGreatDoorOverPathCoordinates
import Derived.Test.YtgcjpenlcokgjaaGreatDoorDoorMake
namespace Go.Proofs.YtgcjpenlcokgjaaGreatDoor
open Go.ChangeShapes Go.WideShapes Go.ChangeAt Go.RowKit
namespace fnExactPathCoordinates
theorem wfText : Rows.fnExactPathCoordinatesRow.wfByText (OpenSpec.ofChange Rows.fnExactPathCoordinatesSpec) = true := by kernel_rfl
theorem funcIs : Tryz.prog.funcNamed "loop.example/g01260/laws.FnExactPathCoordinates" = some 6 := by kernel_rfl
theorem goesNot : false = Rows.fnExactPathCoordinatesRow.goesBy Tryz.pinned.checked.prog := by kernel_rfl
theorem standIns : ([2, 2, 42].all fun u => !Tryz.prog.wantsStandIn u) = true := by kernel_rfl

theorem proved : Rows.FnExactPathCoordinatesCardSaid :=
  Claim7.holds_tied_plain_at .later [] Rows.fnExactPathCoordinatesCard.laidKinds true Rows.fnExactSeriesOfCoordinatesCard.stood.harness Rows.fnExactSeriesOfCoordinatesCard.stood.looks
    over (fun _ h => by cases h) wfText (fun _ h => by cases h) fnExactPathCoordinates_row_tie rfl ⟨rfl, rfl⟩ doorMain rfl
    (fun f fn hf hfn => by
      obtain rfl : f = 6 := Option.some.inj (funcIs.symm.trans hf) |>.symm
      obtain rfl : fn = Tryz.f6 := (Option.some.inj (Tryz.func6.symm.trans hfn)).symm
      exact ⟨doorLooks, fun j t ht => by
        rw [Tryz.params6] at ht
        have hm : t ∈ [2, 2, 42] := by simpa using Array.mem_of_getElem? ht
        exact (show Tryz.prog.wantsStandIn t = false by simpa using List.all_eq_true.1 standIns t hm)⟩)
    goesNot
end fnExactPathCoordinates
end Go.Proofs.YtgcjpenlcokgjaaGreatDoor
