/-
  'FnExactDualSeries' returns true at every input. The row's form round its walk: no condition but that the listed tables of the library hold what its text lays.
-/
import Derived.Test.YtdgkkcjjfpenpaaGreatDoorRowDualSeries
import Derived.Test.YtdgkkcjjfpenpaaGreatDoorDoorLifts
import Derived.Test.YtdgkkcjjfpenpaaGreatDoorDoorMake
namespace Go.Proofs.YtdgkkcjjfpenpaaGreatDoor
open Go.ChangeShapes Go.WideShapes Go.ChangeAt Go.RowKit
namespace fnExactDualSeries
set_option maxRecDepth 1000000 in
set_option maxHeartbeats 8000000 in
theorem closed : joinedFacts Tryz.pinned.checked.prog 3 Tryz.f3 Rows.fnExactDualSeriesSpec Rows.fnExactDualSeriesRow = true := by
  rw [joinedFacts]
  simp only [Bool.and_eq_true]
  and_intros
  all_goals first | with_reducible exact doorLifts | with_reducible exact doorMake | with_reducible exact doorEnter | as_aux_lemma => kernel_rfl

theorem instOf : Tryz.f3.isInstance Tryz.pinned.checked.prog Rows.fnExactDualSeriesRow.origin Rows.fnExactDualSeriesRow.targs := of_decide_eq_true (by kernel_rfl)

theorem over : Rows.FnExactDualSeriesSaid :=
  OpenClaim.holds_of_wide 3 Tryz.f3 rfl rfl rfl rfl rfl rfl rfl ⟨rfl, rfl, rfl, rfl, rfl⟩ rfl rfl rfl rfl rfl (by kernel_rfl) Tryz.func3 closed
    instOf (by unfold Func.isWrapper; first | (rw [if_pos (by decide +kernel)]; kernel_rfl) | (rw [if_neg (by decide +kernel)]; exact ⟨rfl, rfl⟩))
    (fun os started H enc _ => lifted os started H enc)
end fnExactDualSeries
end Go.Proofs.YtdgkkcjjfpenpaaGreatDoor
