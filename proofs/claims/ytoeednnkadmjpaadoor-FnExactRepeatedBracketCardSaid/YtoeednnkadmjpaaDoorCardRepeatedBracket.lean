/-
  'FnExactRepeatedBracket' returns true at every input. The tied card: the listed tables of the library hold what its text lays; no other condition.
-/
import Derived.Test.YtoeednnkadmjpaaDoorOverRepeatedBracket
import Derived.Test.YtoeednnkadmjpaaDoorDoorMain
import Derived.Test.YtoeednnkadmjpaaDoorDoor
namespace Go.Proofs.YtoeednnkadmjpaaDoor
open Go.ChangeShapes Go.WideShapes Go.ChangeAt Go.RowKit
namespace fnExactRepeatedBracket
theorem wfText : Rows.fnExactRepeatedBracketRow.wfByText (OpenSpec.ofChange Rows.fnExactRepeatedBracketSpec) = true := by kernel_rfl
theorem funcIs : Tryd.prog.funcNamed "loop.example/g01260/laws.FnExactRepeatedBracket" = some 10 := by kernel_rfl
theorem goesNot : false = Rows.fnExactRepeatedBracketRow.goesBy Tryd.pinned.checked.prog := by kernel_rfl
theorem standIns : ([32, 32, 2].all fun u => !Tryd.prog.wantsStandIn u) = true := by kernel_rfl

theorem proved : Rows.FnExactRepeatedBracketCardSaid :=
  Claim7.holds_tied_plain_at .later [] Rows.fnExactRepeatedBracketCard.laidKinds true Rows.fnExactUnitSeriesCard.stood.harness Rows.fnExactUnitSeriesCard.stood.looks
    over (fun _ h => by cases h) wfText (fun _ h => by cases h) fnExactRepeatedBracket_row_tie rfl ⟨rfl, rfl⟩ doorMain rfl
    (fun f fn hf hfn => by
      obtain rfl : f = 10 := Option.some.inj (funcIs.symm.trans hf) |>.symm
      obtain rfl : fn = Tryd.f10 := (Option.some.inj (Tryd.func10.symm.trans hfn)).symm
      exact ⟨doorLooks, fun j t ht => by
        rw [Tryd.params10] at ht
        have hm : t ∈ [32, 32, 2] := by simpa using Array.mem_of_getElem? ht
        exact (show Tryd.prog.wantsStandIn t = false by simpa using List.all_eq_true.1 standIns t hm)⟩)
    goesNot
end fnExactRepeatedBracket
end Go.Proofs.YtoeednnkadmjpaaDoor
