/-
  'FnExactShuffleSeries' returns true at every input. The tied card: the listed tables of the library hold what its text lays; no other condition.
-/
import Derived.Test.YtjloadllckllpaaGreatDoorOverShuffleSeries
import Derived.Test.YtjloadllckllpaaGreatDoorDoorMake
namespace Go.Proofs.YtjloadllckllpaaGreatDoor
open Go.ChangeShapes Go.WideShapes Go.ChangeAt Go.RowKit
namespace fnExactShuffleSeries
theorem wfText : Rows.fnExactShuffleSeriesRow.wfByText (OpenSpec.ofChange Rows.fnExactShuffleSeriesSpec) = true := by kernel_rfl
theorem funcIs : Tryz.prog.funcNamed "loop.example/g01260/laws.FnExactShuffleSeries" = some 3 := by kernel_rfl
theorem goesNot : false = Rows.fnExactShuffleSeriesRow.goesBy Tryz.pinned.checked.prog := by kernel_rfl
theorem standIns : ([24, 24].all fun u => !Tryz.prog.wantsStandIn u) = true := by kernel_rfl

theorem proved : Rows.FnExactShuffleSeriesCardSaid :=
  Claim7.holds_tied_plain_at .later [] Rows.fnExactShuffleSeriesCard.laidKinds true Rows.fnExactShuffleSeriesCard.stood.harness Rows.fnExactShuffleSeriesCard.stood.looks
    over (fun _ h => by cases h) wfText (fun _ h => by cases h) fnExactShuffleSeries_row_tie rfl ⟨rfl, rfl⟩ doorMain rfl
    (fun f fn hf hfn => by
      obtain rfl : f = 3 := Option.some.inj (funcIs.symm.trans hf) |>.symm
      obtain rfl : fn = Tryz.f3 := (Option.some.inj (Tryz.func3.symm.trans hfn)).symm
      exact ⟨doorLooks, fun j t ht => by
        rw [Tryz.params3] at ht
        have hm : t ∈ [24, 24] := by simpa using Array.mem_of_getElem? ht
        exact (show Tryz.prog.wantsStandIn t = false by simpa using List.all_eq_true.1 standIns t hm)⟩)
    goesNot
end fnExactShuffleSeries
end Go.Proofs.YtjloadllckllpaaGreatDoor
