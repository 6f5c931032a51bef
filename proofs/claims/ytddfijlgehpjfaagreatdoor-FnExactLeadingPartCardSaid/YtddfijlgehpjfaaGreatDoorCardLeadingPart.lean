/-
  'FnExactLeadingPart' returns true at every input. The tied card: the listed tables of the library hold what its text lays; no other condition.
-/
import Derived.Test.YtddfijlgehpjfaaGreatDoorOverLeadingPart
import Derived.Test.YtddfijlgehpjfaaGreatDoorDoorMake
import Derived.Test.YtddfijlgehpjfaaGreatDoorDoor
namespace Go.Proofs.YtddfijlgehpjfaaGreatDoor
open Go.ChangeShapes Go.WideShapes Go.ChangeAt Go.RowKit
namespace fnExactLeadingPart
theorem wfText : Rows.fnExactLeadingPartRow.wfByText (OpenSpec.ofChange Rows.fnExactLeadingPartSpec) = true := by kernel_rfl
theorem funcIs : Tryz.prog.funcNamed "loop.example/g01260/laws.FnExactLeadingPart" = some 3 := by kernel_rfl
theorem goesNot : false = Rows.fnExactLeadingPartRow.goesBy Tryz.pinned.checked.prog := by kernel_rfl
theorem standIns : ([2, 2, 22].all fun u => !Tryz.prog.wantsStandIn u) = true := by kernel_rfl

theorem proved : Rows.FnExactLeadingPartCardSaid :=
  Claim7.holds_tied_plain_at .later [] Rows.fnExactLeadingPartCard.laidKinds true Rows.fnExactLeadingPartCard.stood.harness Rows.fnExactLeadingPartCard.stood.looks
    over (fun _ h => by cases h) wfText (fun _ h => by cases h) fnExactLeadingPart_row_tie rfl ⟨rfl, rfl⟩ doorMain rfl
    (fun f fn hf hfn => by
      obtain rfl : f = 3 := Option.some.inj (funcIs.symm.trans hf) |>.symm
      obtain rfl : fn = Tryz.f3 := (Option.some.inj (Tryz.func3.symm.trans hfn)).symm
      exact ⟨doorLooks, fun j t ht => by
        rw [Tryz.params3] at ht
        have hm : t ∈ [2, 2, 22] := by simpa using Array.mem_of_getElem? ht
        exact (show Tryz.prog.wantsStandIn t = false by simpa using List.all_eq_true.1 standIns t hm)⟩)
    goesNot
end fnExactLeadingPart
end Go.Proofs.YtddfijlgehpjfaaGreatDoor
