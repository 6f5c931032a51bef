/-
  'FnExactIsGroupLike' returns true at every input. The tied card: the listed tables of the library hold what its text lays; no other condition.
-/
import Derived.Test.YtmcmbhnkkloknaaDoorOverIsGroupLike
import Derived.Test.YtmcmbhnkkloknaaDoorDoorMake
namespace Go.Proofs.YtmcmbhnkkloknaaDoor
open Go.ChangeShapes Go.WideShapes Go.ChangeAt Go.RowKit
namespace fnExactIsGroupLike
theorem wfText : Rows.fnExactIsGroupLikeRow.wfByText (OpenSpec.ofChange Rows.fnExactIsGroupLikeSpec) = true := by kernel_rfl
theorem funcIs : Tryd.prog.funcNamed "loop.example/g01260/laws.FnExactIsGroupLike" = some 3 := by kernel_rfl
theorem goesNot : false = Rows.fnExactIsGroupLikeRow.goesBy Tryd.pinned.checked.prog := by kernel_rfl
theorem standIns : ([24].all fun u => !Tryd.prog.wantsStandIn u) = true := by kernel_rfl

theorem proved : Rows.FnExactIsGroupLikeCardSaid :=
  Claim7.holds_tied_plain_at .later [] Rows.fnExactIsGroupLikeCard.laidKinds true Rows.fnExactIsGroupLikeCard.stood.harness Rows.fnExactIsGroupLikeCard.stood.looks
    over (fun _ h => by cases h) wfText (fun _ h => by cases h) fnExactIsGroupLike_row_tie rfl ⟨rfl, rfl⟩ doorMain rfl
    (fun f fn hf hfn => by
      obtain rfl : f = 3 := Option.some.inj (funcIs.symm.trans hf) |>.symm
      obtain rfl : fn = Tryd.f3 := (Option.some.inj (Tryd.func3.symm.trans hfn)).symm
      exact ⟨doorLooks, fun j t ht => by
        rw [Tryd.params3] at ht
        have hm : t ∈ [24] := by simpa using Array.mem_of_getElem? ht
        exact (show Tryd.prog.wantsStandIn t = false by simpa using List.all_eq_true.1 standIns t hm)⟩)
    goesNot
end fnExactIsGroupLike
end Go.Proofs.YtmcmbhnkkloknaaDoor
