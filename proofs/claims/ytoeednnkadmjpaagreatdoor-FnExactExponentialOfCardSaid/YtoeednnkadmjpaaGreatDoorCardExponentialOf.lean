/-
  'FnExactExponentialOf' returns true at every input. The tied card: the listed tables of the library hold what its text lays; no other condition.
-/
import Derived.Test.YtoeednnkadmjpaaGreatDoorOverExponentialOf
import Derived.Test.YtoeednnkadmjpaaGreatDoorDoorMain
import Derived.Test.YtoeednnkadmjpaaGreatDoorDoor
namespace Go.Proofs.YtoeednnkadmjpaaGreatDoor
open Go.ChangeShapes Go.WideShapes Go.ChangeAt Go.RowKit
namespace fnExactExponentialOf
theorem wfText : Rows.fnExactExponentialOfRow.wfByText (OpenSpec.ofChange Rows.fnExactExponentialOfSpec) = true := by kernel_rfl
theorem funcIs : Tryz.prog.funcNamed "loop.example/g01260/laws.FnExactExponentialOf" = some 4 := by kernel_rfl
theorem goesNot : false = Rows.fnExactExponentialOfRow.goesBy Tryz.pinned.checked.prog := by kernel_rfl
theorem standIns : ([24].all fun u => !Tryz.prog.wantsStandIn u) = true := by kernel_rfl

theorem proved : Rows.FnExactExponentialOfCardSaid :=
  Claim7.holds_tied_plain_at .later [] Rows.fnExactExponentialOfCard.laidKinds true Rows.fnExactInverseSeriesCard.stood.harness Rows.fnExactInverseSeriesCard.stood.looks
    over (fun _ h => by cases h) wfText (fun _ h => by cases h) fnExactExponentialOf_row_tie rfl ⟨rfl, rfl⟩ doorMain rfl
    (fun f fn hf hfn => by
      obtain rfl : f = 4 := Option.some.inj (funcIs.symm.trans hf) |>.symm
      obtain rfl : fn = Tryz.f4 := (Option.some.inj (Tryz.func4.symm.trans hfn)).symm
      exact ⟨doorLooks, fun j t ht => by
        rw [Tryz.params4] at ht
        have hm : t ∈ [24] := by simpa using Array.mem_of_getElem? ht
        exact (show Tryz.prog.wantsStandIn t = false by simpa using List.all_eq_true.1 standIns t hm)⟩)
    goesNot
end fnExactExponentialOf
end Go.Proofs.YtoeednnkadmjpaaGreatDoor
