/-
  'FnExactDegreesOf' returns true at every input. The tied card: the listed tables of the library hold what its text lays; no other condition.
-/
import Derived.Test.YtklgmdcjgdjcfaaDoorOverDegreesOf
import Derived.Test.YtklgmdcjgdjcfaaDoorDoorMake
import Derived.Test.YtklgmdcjgdjcfaaDoorDoor
namespace Go.Proofs.YtklgmdcjgdjcfaaDoor
open Go.ChangeShapes Go.WideShapes Go.ChangeAt Go.RowKit
namespace fnExactDegreesOf
theorem wfText : Rows.fnExactDegreesOfRow.wfByText (OpenSpec.ofChange Rows.fnExactDegreesOfSpec) = true := by kernel_rfl
theorem funcIs : Tryd.prog.funcNamed "loop.example/g01260/laws.FnExactDegreesOf" = some 3 := by kernel_rfl
theorem goesNot : false = Rows.fnExactDegreesOfRow.goesBy Tryd.pinned.checked.prog := by kernel_rfl
theorem standIns : ([24].all fun u => !Tryd.prog.wantsStandIn u) = true := by kernel_rfl

theorem proved : Rows.FnExactDegreesOfCardSaid :=
  Claim7.holds_tied_plain_at .later [] Rows.fnExactDegreesOfCard.laidKinds true Rows.fnExactDegreesOfCard.stood.harness Rows.fnExactDegreesOfCard.stood.looks
    over (fun _ h => by cases h) wfText (fun _ h => by cases h) fnExactDegreesOf_row_tie rfl ⟨rfl, rfl⟩ doorMain rfl
    (fun f fn hf hfn => by
      obtain rfl : f = 3 := Option.some.inj (funcIs.symm.trans hf) |>.symm
      obtain rfl : fn = Tryd.f3 := (Option.some.inj (Tryd.func3.symm.trans hfn)).symm
      exact ⟨doorLooks, fun j t ht => by
        rw [Tryd.params3] at ht
        have hm : t ∈ [24] := by simpa using Array.mem_of_getElem? ht
        exact (show Tryd.prog.wantsStandIn t = false by simpa using List.all_eq_true.1 standIns t hm)⟩)
    goesNot
end fnExactDegreesOf
end Go.Proofs.YtklgmdcjgdjcfaaDoor
