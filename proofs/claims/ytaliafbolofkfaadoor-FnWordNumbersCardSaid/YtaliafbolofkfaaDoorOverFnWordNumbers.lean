/-
  'FnWordNumbers' returns true at every input. The row's form round its walk: no condition but that the listed tables of the library hold what its text lays.
-/
import Derived.Test.YtaliafbolofkfaaDoorRowFnWordNumbers
import Derived.Test.YtaliafbolofkfaaDoorDoorLifts
import Derived.Test.YtaliafbolofkfaaDoorDoorMake
namespace Go.Proofs.YtaliafbolofkfaaDoor
open Go.ChangeShapes Go.WideShapes Go.ChangeAt Go.RowKit
namespace fnWordNumbers
set_option maxRecDepth 1000000 in
set_option maxHeartbeats 8000000 in
theorem closed : joinedFacts Tryd.pinned.checked.prog 3 Tryd.f3 Rows.fnWordNumbersSpec Rows.fnWordNumbersRow = true := by
  rw [joinedFacts]
  simp only [Bool.and_eq_true]
  and_intros
  all_goals first | with_reducible exact doorLifts | with_reducible exact doorMake | with_reducible exact doorEnter | as_aux_lemma => kernel_rfl

theorem instOf : Tryd.f3.isInstance Tryd.pinned.checked.prog Rows.fnWordNumbersRow.origin Rows.fnWordNumbersRow.targs := of_decide_eq_true (by kernel_rfl)

theorem over : Rows.FnWordNumbersSaid :=
  OpenClaim.holds_of_wide 3 Tryd.f3 rfl rfl rfl rfl rfl rfl rfl ⟨rfl, rfl, rfl, rfl, rfl⟩ rfl rfl rfl rfl rfl (by kernel_rfl) Tryd.func3 closed
    instOf (by unfold Func.isWrapper; first | (rw [if_pos (by decide +kernel)]; kernel_rfl) | (rw [if_neg (by decide +kernel)]; exact ⟨rfl, rfl⟩))
    (fun os started H enc _ => lifted os started H enc)
end fnWordNumbers
end Go.Proofs.YtaliafbolofkfaaDoor
