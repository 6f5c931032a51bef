/-
  'FnExactJoinedSeries' returns true at every input. The tied card: the listed tables of the library hold what its text lays; no other condition.
-/
import Derived.Test.YtoeednnkadmjpaaGreatDoorOverJoinedSeries
import Derived.Test.YtoeednnkadmjpaaGreatDoorDoorMain
import Derived.Test.YtoeednnkadmjpaaGreatDoorDoor
namespace Go.Proofs.YtoeednnkadmjpaaGreatDoor
open Go.ChangeShapes Go.WideShapes Go.ChangeAt Go.RowKit
namespace fnExactJoinedSeries
theorem wfText : Rows.fnExactJoinedSeriesRow.wfByText (OpenSpec.ofChange Rows.fnExactJoinedSeriesSpec) = true := by kernel_rfl
theorem funcIs : Tryz.prog.funcNamed "loop.example/g01260/laws.FnExactJoinedSeries" = some 6 := by kernel_rfl
theorem goesNot : false = Rows.fnExactJoinedSeriesRow.goesBy Tryz.pinned.checked.prog := by kernel_rfl
theorem standIns : ([24, 24].all fun u => !Tryz.prog.wantsStandIn u) = true := by kernel_rfl

theorem proved : Rows.FnExactJoinedSeriesCardSaid :=
  Claim7.holds_tied_plain_at .later [] Rows.fnExactJoinedSeriesCard.laidKinds true Rows.fnExactInverseSeriesCard.stood.harness Rows.fnExactInverseSeriesCard.stood.looks
    over (fun _ h => by cases h) wfText (fun _ h => by cases h) fnExactJoinedSeries_row_tie rfl ⟨rfl, rfl⟩ doorMain rfl
    (fun f fn hf hfn => by
      obtain rfl : f = 6 := Option.some.inj (funcIs.symm.trans hf) |>.symm
      obtain rfl : fn = Tryz.f6 := (Option.some.inj (Tryz.func6.symm.trans hfn)).symm
      exact ⟨doorLooks, fun j t ht => by
        rw [Tryz.params6] at ht
        have hm : t ∈ [24, 24] := by simpa using Array.mem_of_getElem? ht
        exact (show Tryz.prog.wantsStandIn t = false by simpa using List.all_eq_true.1 standIns t hm)⟩)
    goesNot
end fnExactJoinedSeries
end Go.Proofs.YtoeednnkadmjpaaGreatDoor
