/-
  'FnExactShuffleWords' returns true at every input. The tied card: the listed tables of the library hold what its text lays; no other condition.
-/
import Derived.Test.YteljpgoaaelbfaaDoorOverShuffleWords
import Derived.Test.YteljpgoaaelbfaaDoorDoorMake
namespace Go.Proofs.YteljpgoaaelbfaaDoor
open Go.ChangeShapes Go.WideShapes Go.ChangeAt Go.RowKit
namespace fnExactShuffleWords
theorem wfText : Rows.fnExactShuffleWordsRow.wfByText (OpenSpec.ofChange Rows.fnExactShuffleWordsSpec) = true := by kernel_rfl
theorem funcIs : Tryd.prog.funcNamed "loop.example/g01260/laws.FnExactShuffleWords" = some 3 := by kernel_rfl
theorem goesNot : false = Rows.fnExactShuffleWordsRow.goesBy Tryd.pinned.checked.prog := by kernel_rfl
theorem standIns : ([2, 2, 9, 9].all fun u => !Tryd.prog.wantsStandIn u) = true := by kernel_rfl

theorem proved : Rows.FnExactShuffleWordsCardSaid :=
  Claim7.holds_tied_plain_at .later [] Rows.fnExactShuffleWordsCard.laidKinds true Rows.fnExactShuffleWordsCard.stood.harness Rows.fnExactShuffleWordsCard.stood.looks
    over (fun _ h => by cases h) wfText (fun _ h => by cases h) fnExactShuffleWords_row_tie rfl ⟨rfl, rfl⟩ doorMain rfl
    (fun f fn hf hfn => by
      obtain rfl : f = 3 := Option.some.inj (funcIs.symm.trans hf) |>.symm
      obtain rfl : fn = Tryd.f3 := (Option.some.inj (Tryd.func3.symm.trans hfn)).symm
      exact ⟨doorLooks, fun j t ht => by
        rw [Tryd.params3] at ht
        have hm : t ∈ [2, 2, 9, 9] := by simpa using Array.mem_of_getElem? ht
        exact (show Tryd.prog.wantsStandIn t = false by simpa using List.all_eq_true.1 standIns t hm)⟩)
    goesNot
end fnExactShuffleWords
end Go.Proofs.YteljpgoaaelbfaaDoor
