/-
  'FnExactValueAtShuffle' returns true at every input. The tied card: the listed tables of the library hold what its text lays; no other condition.
-/
import Derived.Test.YteljpgoaaelbfaaDoorOverValueAtShuffle
import Derived.Test.YteljpgoaaelbfaaDoorDoorMake
namespace Go.Proofs.YteljpgoaaelbfaaDoor
open Go.ChangeShapes Go.WideShapes Go.ChangeAt Go.RowKit
namespace fnExactValueAtShuffle
theorem wfText : Rows.fnExactValueAtShuffleRow.wfByText (OpenSpec.ofChange Rows.fnExactValueAtShuffleSpec) = true := by kernel_rfl
theorem funcIs : Tryd.prog.funcNamed "loop.example/g01260/laws.FnExactValueAtShuffle" = some 4 := by kernel_rfl
theorem goesNot : false = Rows.fnExactValueAtShuffleRow.goesBy Tryd.pinned.checked.prog := by kernel_rfl
theorem standIns : ([32, 9, 9].all fun u => !Tryd.prog.wantsStandIn u) = true := by kernel_rfl

theorem proved : Rows.FnExactValueAtShuffleCardSaid :=
  Claim7.holds_tied_plain_at .later [] Rows.fnExactValueAtShuffleCard.laidKinds true Rows.fnExactShuffleWordsCard.stood.harness Rows.fnExactShuffleWordsCard.stood.looks
    over (fun _ h => by cases h) wfText (fun _ h => by cases h) fnExactValueAtShuffle_row_tie rfl ⟨rfl, rfl⟩ doorMain rfl
    (fun f fn hf hfn => by
      obtain rfl : f = 4 := Option.some.inj (funcIs.symm.trans hf) |>.symm
      obtain rfl : fn = Tryd.f4 := (Option.some.inj (Tryd.func4.symm.trans hfn)).symm
      exact ⟨doorLooks, fun j t ht => by
        rw [Tryd.params4] at ht
        have hm : t ∈ [32, 9, 9] := by simpa using Array.mem_of_getElem? ht
        exact (show Tryd.prog.wantsStandIn t = false by simpa using List.all_eq_true.1 standIns t hm)⟩)
    goesNot
end fnExactValueAtShuffle
end Go.Proofs.YteljpgoaaelbfaaDoor
