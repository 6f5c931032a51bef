/-
  'FnExactIsLieSeries' returns true at every input. The tied card: the listed tables of the library hold what its text lays; no other condition.
-/
import Derived.Test.YtmcmbhnkkloknaaDoorOverIsLieSeries
import Derived.Test.YtmcmbhnkkloknaaDoorDoorMake
namespace Go.Proofs.YtmcmbhnkkloknaaDoor
open Go.ChangeShapes Go.WideShapes Go.ChangeAt Go.RowKit
namespace fnExactIsLieSeries
theorem wfText : Rows.fnExactIsLieSeriesRow.wfByText (OpenSpec.ofChange Rows.fnExactIsLieSeriesSpec) = true := by kernel_rfl
theorem funcIs : Tryd.prog.funcNamed "loop.example/g01260/laws.FnExactIsLieSeries" = some 4 := by kernel_rfl
theorem goesNot : false = Rows.fnExactIsLieSeriesRow.goesBy Tryd.pinned.checked.prog := by kernel_rfl
theorem standIns : ([24].all fun u => !Tryd.prog.wantsStandIn u) = true := by kernel_rfl

theorem proved : Rows.FnExactIsLieSeriesCardSaid :=
  Claim7.holds_tied_plain_at .later [] Rows.fnExactIsLieSeriesCard.laidKinds true Rows.fnExactIsLieSeriesCard.stood.harness Rows.fnExactIsLieSeriesCard.stood.looks
    over (fun _ h => by cases h) wfText (fun _ h => by cases h) fnExactIsLieSeries_row_tie rfl ⟨rfl, rfl⟩ doorMain rfl
    (fun f fn hf hfn => by
      obtain rfl : f = 4 := Option.some.inj (funcIs.symm.trans hf) |>.symm
      obtain rfl : fn = Tryd.f4 := (Option.some.inj (Tryd.func4.symm.trans hfn)).symm
      exact ⟨doorLooks, fun j t ht => by
        rw [Tryd.params4] at ht
        have hm : t ∈ [24] := by simpa using Array.mem_of_getElem? ht
        exact (show Tryd.prog.wantsStandIn t = false by simpa using List.all_eq_true.1 standIns t hm)⟩)
    goesNot
end fnExactIsLieSeries
end Go.Proofs.YtmcmbhnkkloknaaDoor
