/-
  'FnExactShufflePower' returns true at every input. The tied card: the listed tables of the library hold what its text lays; no other condition.
-/
import Derived.Test.YtjloadllckllpaaGreatDoorOverShufflePower
import Derived.Test.YtjloadllckllpaaGreatDoorDoorMake
namespace Go.Proofs.YtjloadllckllpaaGreatDoor
open Go.ChangeShapes Go.WideShapes Go.ChangeAt Go.RowKit
namespace fnExactShufflePower
theorem wfText : Rows.fnExactShufflePowerRow.wfByText (OpenSpec.ofChange Rows.fnExactShufflePowerSpec) = true := by kernel_rfl
theorem funcIs : Tryz.prog.funcNamed "loop.example/g01260/laws.FnExactShufflePower" = some 5 := by kernel_rfl
theorem goesNot : false = Rows.fnExactShufflePowerRow.goesBy Tryz.pinned.checked.prog := by kernel_rfl
theorem standIns : ([24, 2].all fun u => !Tryz.prog.wantsStandIn u) = true := by kernel_rfl

theorem proved : Rows.FnExactShufflePowerCardSaid :=
  Claim7.holds_tied_plain_at .later [] Rows.fnExactShufflePowerCard.laidKinds true Rows.fnExactShuffleSeriesCard.stood.harness Rows.fnExactShuffleSeriesCard.stood.looks
    over (fun _ h => by cases h) wfText (fun _ h => by cases h) fnExactShufflePower_row_tie rfl ⟨rfl, rfl⟩ doorMain rfl
    (fun f fn hf hfn => by
      obtain rfl : f = 5 := Option.some.inj (funcIs.symm.trans hf) |>.symm
      obtain rfl : fn = Tryz.f5 := (Option.some.inj (Tryz.func5.symm.trans hfn)).symm
      exact ⟨doorLooks, fun j t ht => by
        rw [Tryz.params5] at ht
        have hm : t ∈ [24, 2] := by simpa using Array.mem_of_getElem? ht
        exact (show Tryz.prog.wantsStandIn t = false by simpa using List.all_eq_true.1 standIns t hm)⟩)
    goesNot
end fnExactShufflePower
end Go.Proofs.YtjloadllckllpaaGreatDoor
