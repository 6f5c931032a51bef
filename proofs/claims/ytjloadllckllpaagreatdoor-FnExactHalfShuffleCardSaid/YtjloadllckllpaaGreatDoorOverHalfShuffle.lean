/-
  'FnExactHalfShuffle' returns true at every input. The row's form round its walk: no condition but that the listed tables of the library hold what its text lays.
-/
import Derived.Test.YtjloadllckllpaaGreatDoorRowHalfShuffle
import Derived.Test.YtjloadllckllpaaGreatDoorDoorLifts
import Derived.Test.YtjloadllckllpaaGreatDoorDoorMake
namespace Go.Proofs.YtjloadllckllpaaGreatDoor
open Go.ChangeShapes Go.WideShapes Go.ChangeAt Go.RowKit
namespace fnExactHalfShuffle
set_option maxRecDepth 1000000 in
set_option maxHeartbeats 8000000 in
theorem closed : joinedFacts Tryz.pinned.checked.prog 4 Tryz.f4 Rows.fnExactHalfShuffleSpec Rows.fnExactHalfShuffleRow = true := by
  rw [joinedFacts]
  simp only [Bool.and_eq_true]
  and_intros
  all_goals first | with_reducible exact doorLifts | with_reducible exact doorMake | with_reducible exact doorEnter | as_aux_lemma => kernel_rfl

theorem instOf : Tryz.f4.isInstance Tryz.pinned.checked.prog Rows.fnExactHalfShuffleRow.origin Rows.fnExactHalfShuffleRow.targs := of_decide_eq_true (by kernel_rfl)

theorem over : Rows.FnExactHalfShuffleSaid :=
  OpenClaim.holds_of_wide 4 Tryz.f4 rfl rfl rfl rfl rfl rfl rfl ⟨rfl, rfl, rfl, rfl, rfl⟩ rfl rfl rfl rfl rfl (by kernel_rfl) Tryz.func4 closed
    instOf (by unfold Func.isWrapper; first | (rw [if_pos (by decide +kernel)]; kernel_rfl) | (rw [if_neg (by decide +kernel)]; exact ⟨rfl, rfl⟩))
    (fun os started H enc _ => lifted os started H enc)
end fnExactHalfShuffle
end Go.Proofs.YtjloadllckllpaaGreatDoor
