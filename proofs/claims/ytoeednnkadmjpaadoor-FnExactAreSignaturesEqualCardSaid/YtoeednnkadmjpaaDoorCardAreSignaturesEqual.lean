/-
  'FnExactAreSignaturesEqual' returns true at every input. The tied card: the listed tables of the library hold what its text lays; no other condition.
-/
import Derived.Test.YtoeednnkadmjpaaDoorOverAreSignaturesEqual
import Derived.Test.YtoeednnkadmjpaaDoorDoorMain
import Derived.Test.YtoeednnkadmjpaaDoorDoor
namespace Go.Proofs.YtoeednnkadmjpaaDoor
open Go.ChangeShapes Go.WideShapes Go.ChangeAt Go.RowKit
namespace fnExactAreSignaturesEqual
theorem wfText : Rows.fnExactAreSignaturesEqualRow.wfByText (OpenSpec.ofChange Rows.fnExactAreSignaturesEqualSpec) = true := by kernel_rfl
theorem funcIs : Tryd.prog.funcNamed "loop.example/g01260/laws.FnExactAreSignaturesEqual" = some 9 := by kernel_rfl
theorem goesNot : false = Rows.fnExactAreSignaturesEqualRow.goesBy Tryd.pinned.checked.prog := by kernel_rfl
theorem standIns : ([2, 2, 41, 41].all fun u => !Tryd.prog.wantsStandIn u) = true := by kernel_rfl

theorem proved : Rows.FnExactAreSignaturesEqualCardSaid :=
  Claim7.holds_tied_plain_at .later [] Rows.fnExactAreSignaturesEqualCard.laidKinds true Rows.fnExactUnitSeriesCard.stood.harness Rows.fnExactUnitSeriesCard.stood.looks
    over (fun _ h => by cases h) wfText (fun _ h => by cases h) fnExactAreSignaturesEqual_row_tie rfl ⟨rfl, rfl⟩ doorMain rfl
    (fun f fn hf hfn => by
      obtain rfl : f = 9 := Option.some.inj (funcIs.symm.trans hf) |>.symm
      obtain rfl : fn = Tryd.f9 := (Option.some.inj (Tryd.func9.symm.trans hfn)).symm
      exact ⟨doorLooks, fun j t ht => by
        rw [Tryd.params9] at ht
        have hm : t ∈ [2, 2, 41, 41] := by simpa using Array.mem_of_getElem? ht
        exact (show Tryd.prog.wantsStandIn t = false by simpa using List.all_eq_true.1 standIns t hm)⟩)
    goesNot
end fnExactAreSignaturesEqual
end Go.Proofs.YtoeednnkadmjpaaDoor
