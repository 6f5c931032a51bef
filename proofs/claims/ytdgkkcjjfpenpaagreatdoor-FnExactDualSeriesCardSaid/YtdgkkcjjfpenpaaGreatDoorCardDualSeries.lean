/-
  'FnExactDualSeries' returns true at every input. The tied card: the listed tables of the library hold what its text lays; no other condition.
-/
import Derived.Test.YtdgkkcjjfpenpaaGreatDoorOverDualSeries
import Derived.Test.YtdgkkcjjfpenpaaGreatDoorDoorMake
namespace Go.Proofs.YtdgkkcjjfpenpaaGreatDoor
open Go.ChangeShapes Go.WideShapes Go.ChangeAt Go.RowKit
namespace fnExactDualSeries
theorem wfText : Rows.fnExactDualSeriesRow.wfByText (OpenSpec.ofChange Rows.fnExactDualSeriesSpec) = true := by kernel_rfl
theorem funcIs : Tryz.prog.funcNamed "loop.example/g01260/laws.FnExactDualSeries" = some 3 := by kernel_rfl
theorem goesNot : false = Rows.fnExactDualSeriesRow.goesBy Tryz.pinned.checked.prog := by kernel_rfl
theorem standIns : ([2, 2, 9].all fun u => !Tryz.prog.wantsStandIn u) = true := by kernel_rfl

theorem proved : Rows.FnExactDualSeriesCardSaid :=
  Claim7.holds_tied_plain_at .later [] Rows.fnExactDualSeriesCard.laidKinds true Rows.fnExactDualSeriesCard.stood.harness Rows.fnExactDualSeriesCard.stood.looks
    over (fun _ h => by cases h) wfText (fun _ h => by cases h) fnExactDualSeries_row_tie rfl ⟨rfl, rfl⟩ doorMain rfl
    (fun f fn hf hfn => by
      obtain rfl : f = 3 := Option.some.inj (funcIs.symm.trans hf) |>.symm
      obtain rfl : fn = Tryz.f3 := (Option.some.inj (Tryz.func3.symm.trans hfn)).symm
      exact ⟨doorLooks, fun j t ht => by
        rw [Tryz.params3] at ht
        have hm : t ∈ [2, 2, 9] := by simpa using Array.mem_of_getElem? ht
        exact (show Tryz.prog.wantsStandIn t = false by simpa using List.all_eq_true.1 standIns t hm)⟩)
    goesNot
end fnExactDualSeries
end Go.Proofs.YtdgkkcjjfpenpaaGreatDoor
