/-
  'FnExactKeepLetters' returns true at every input. The tied card: the listed tables of the library hold what its text lays; no other condition.
-/
import Derived.Test.YtlaaldpejjlbkaaDoorOverKeepLetters
import Derived.Test.YtlaaldpejjlbkaaDoorDoorMake
import Derived.Test.YtlaaldpejjlbkaaDoorDoorL
namespace Go.Proofs.YtlaaldpejjlbkaaDoor
open Go.ChangeShapes Go.WideShapes Go.ChangeAt Go.RowKit
namespace fnExactKeepLetters
theorem wfText : Rows.fnExactKeepLettersRow.wfByText (OpenSpec.ofChange Rows.fnExactKeepLettersSpec) = true := by kernel_rfl
theorem funcIs : Tryd.prog.funcNamed "loop.example/g01260/laws.FnExactKeepLetters" = some 3 := by kernel_rfl
theorem goesNot : false = Rows.fnExactKeepLettersRow.goesBy Tryd.pinned.checked.prog := by kernel_rfl
theorem standIns : ([24, 9].all fun u => !Tryd.prog.wantsStandIn u) = true := by kernel_rfl

theorem proved : Rows.FnExactKeepLettersCardSaid :=
  Claim7.holds_tied_plain_at .later [] Rows.fnExactKeepLettersCard.laidKinds true Rows.fnExactKeepLettersCard.stood.harness Rows.fnExactKeepLettersCard.stood.looks
    over (fun _ h => by cases h) wfText (fun _ h => by cases h) fnExactKeepLetters_row_tie rfl ⟨rfl, rfl⟩ doorMain rfl
    (fun f fn hf hfn => by
      obtain rfl : f = 3 := Option.some.inj (funcIs.symm.trans hf) |>.symm
      obtain rfl : fn = Tryd.f3 := (Option.some.inj (Tryd.func3.symm.trans hfn)).symm
      exact ⟨doorLooks, fun j t ht => by
        rw [Tryd.params3] at ht
        have hm : t ∈ [24, 9] := by simpa using Array.mem_of_getElem? ht
        exact (show Tryd.prog.wantsStandIn t = false by simpa using List.all_eq_true.1 standIns t hm)⟩)
    goesNot
end fnExactKeepLetters
end Go.Proofs.YtlaaldpejjlbkaaDoor
