/-
  'FnExactAntipodeOf' returns true at every input. The tied card: the listed tables of the library hold what its text lays; no other condition.
-/
import Derived.Test.YtoeednnkadmjpaaDoorOverAntipodeOf
import Derived.Test.YtoeednnkadmjpaaDoorDoorMain
import Derived.Test.YtoeednnkadmjpaaDoorDoor
namespace Go.Proofs.YtoeednnkadmjpaaDoor
open Go.ChangeShapes Go.WideShapes Go.ChangeAt Go.RowKit
namespace fnExactAntipodeOf
theorem wfText : Rows.fnExactAntipodeOfRow.wfByText (OpenSpec.ofChange Rows.fnExactAntipodeOfSpec) = true := by kernel_rfl
theorem funcIs : Tryd.prog.funcNamed "loop.example/g01260/laws.FnExactAntipodeOf" = some 8 := by kernel_rfl
theorem goesNot : false = Rows.fnExactAntipodeOfRow.goesBy Tryd.pinned.checked.prog := by kernel_rfl
theorem standIns : ([32].all fun u => !Tryd.prog.wantsStandIn u) = true := by kernel_rfl

theorem proved : Rows.FnExactAntipodeOfCardSaid :=
  Claim7.holds_tied_plain_at .later [] Rows.fnExactAntipodeOfCard.laidKinds true Rows.fnExactUnitSeriesCard.stood.harness Rows.fnExactUnitSeriesCard.stood.looks
    over (fun _ h => by cases h) wfText (fun _ h => by cases h) fnExactAntipodeOf_row_tie rfl ⟨rfl, rfl⟩ doorMain rfl
    (fun f fn hf hfn => by
      obtain rfl : f = 8 := Option.some.inj (funcIs.symm.trans hf) |>.symm
      obtain rfl : fn = Tryd.f8 := (Option.some.inj (Tryd.func8.symm.trans hfn)).symm
      exact ⟨doorLooks, fun j t ht => by
        rw [Tryd.params8] at ht
        have hm : t ∈ [32] := by simpa using Array.mem_of_getElem? ht
        exact (show Tryd.prog.wantsStandIn t = false by simpa using List.all_eq_true.1 standIns t hm)⟩)
    goesNot
end fnExactAntipodeOf
end Go.Proofs.YtoeednnkadmjpaaDoor
