/-
  'FnExactHalfShuffle' returns true at every input. The tied card: the listed tables of the library hold what its text lays; no other condition.
-/
import Derived.Test.YtjloadllckllpaaGreatDoorOverHalfShuffle
import Derived.Test.YtjloadllckllpaaGreatDoorDoorMake
namespace Go.Proofs.YtjloadllckllpaaGreatDoor
open Go.ChangeShapes Go.WideShapes Go.ChangeAt Go.RowKit
namespace fnExactHalfShuffle
theorem wfText : Rows.fnExactHalfShuffleRow.wfByText (OpenSpec.ofChange Rows.fnExactHalfShuffleSpec) = true := by kernel_rfl
theorem funcIs : Tryz.prog.funcNamed "loop.example/g01260/laws.FnExactHalfShuffle" = some 4 := by kernel_rfl
theorem goesNot : false = Rows.fnExactHalfShuffleRow.goesBy Tryz.pinned.checked.prog := by kernel_rfl
theorem standIns : ([24, 24].all fun u => !Tryz.prog.wantsStandIn u) = true := by kernel_rfl

theorem proved : Rows.FnExactHalfShuffleCardSaid :=
  Claim7.holds_tied_plain_at .later [] Rows.fnExactHalfShuffleCard.laidKinds true Rows.fnExactShuffleSeriesCard.stood.harness Rows.fnExactShuffleSeriesCard.stood.looks
    over (fun _ h => by cases h) wfText (fun _ h => by cases h) fnExactHalfShuffle_row_tie rfl ⟨rfl, rfl⟩ doorMain rfl
    (fun f fn hf hfn => by
      obtain rfl : f = 4 := Option.some.inj (funcIs.symm.trans hf) |>.symm
      obtain rfl : fn = Tryz.f4 := (Option.some.inj (Tryz.func4.symm.trans hfn)).symm
      exact ⟨doorLooks, fun j t ht => by
        rw [Tryz.params4] at ht
        have hm : t ∈ [24, 24] := by simpa using Array.mem_of_getElem? ht
        exact (show Tryz.prog.wantsStandIn t = false by simpa using List.all_eq_true.1 standIns t hm)⟩)
    goesNot
end fnExactHalfShuffle
end Go.Proofs.YtjloadllckllpaaGreatDoor
