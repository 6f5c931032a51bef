/-
  'FnWordNumbers' returns true at every input. The tied card: the listed tables of the library hold what its text lays; no other condition.
-/
import Derived.Test.YtaliafbolofkfaaDoorOverFnWordNumbers
import Derived.Test.YtaliafbolofkfaaDoorDoorMake
namespace Go.Proofs.YtaliafbolofkfaaDoor
open Go.ChangeShapes Go.WideShapes Go.ChangeAt Go.RowKit
namespace fnWordNumbers
theorem wfText : Rows.fnWordNumbersRow.wfByText (OpenSpec.ofChange Rows.fnWordNumbersSpec) = true := by kernel_rfl
theorem funcIs : Tryd.prog.funcNamed "loop.example/g01260/laws.FnWordNumbers" = some 3 := by kernel_rfl
theorem goesNot : false = Rows.fnWordNumbersRow.goesBy Tryd.pinned.checked.prog := by kernel_rfl
theorem standIns : ([22].all fun u => !Tryd.prog.wantsStandIn u) = true := by kernel_rfl

theorem proved : Rows.FnWordNumbersCardSaid :=
  Claim7.holds_tied_plain_at .later [] Rows.fnWordNumbersCard.laidKinds true Rows.fnWordNumbersCard.stood.harness Rows.fnWordNumbersCard.stood.looks
    over (fun _ h => by cases h) wfText (fun _ h => by cases h) fnWordNumbers_row_tie rfl ⟨rfl, rfl⟩ doorMain rfl
    (fun f fn hf hfn => by
      obtain rfl : f = 3 := Option.some.inj (funcIs.symm.trans hf) |>.symm
      obtain rfl : fn = Tryd.f3 := (Option.some.inj (Tryd.func3.symm.trans hfn)).symm
      exact ⟨doorLooks, fun j t ht => by
        rw [Tryd.params3] at ht
        have hm : t ∈ [22] := by simpa using Array.mem_of_getElem? ht
        exact (show Tryd.prog.wantsStandIn t = false by simpa using List.all_eq_true.1 standIns t hm)⟩)
    goesNot
end fnWordNumbers
end Go.Proofs.YtaliafbolofkfaaDoor
