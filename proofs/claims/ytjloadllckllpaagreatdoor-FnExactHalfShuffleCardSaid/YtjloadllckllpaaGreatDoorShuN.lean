/-
  ShuffleNumber's contracts, of the model; and what counts as good arguments.
-/
import Derived.Test.YtjloadllckllpaaGreatDoorShuS
import Derived.Test.YtjloadllckllpaaGreatDoorRes
namespace Go.Proofs.YtjloadllckllpaaGreatDoor
open Go.RowKit
set_option linter.unusedVariables false

/-- the code of ShuffleNumber -/
def shC (d : Int) (v w u : ByteArray) : Int := if inB d 1 3 && wordB d v.data.toList && wordB d w.data.toList && wordB d u.data.toList && decide (v.size ≤ 8) && decide (w.size ≤ 8) && decide (u.size ≤ 8) then 0 else 2
/-- its number -/
def shV (d : Int) (v w u : ByteArray) : Int := if shC d v w u = 0 then (shN v.data.toList w.data.toList u.data.toList : Nat) else 0
theorem shC_good {d : Int} {v w u : ByteArray} (h : shC d v w u = 0) : inB d 1 3 = true ∧ wordB d v.data.toList = true ∧ wordB d w.data.toList = true ∧ wordB d u.data.toList = true ∧ v.size ≤ 8 ∧ w.size ≤ 8 ∧ u.size ≤ 8 := by
  unfold shC at h
  split at h
  · rename_i h1
    simp only [Bool.and_eq_true, decide_eq_true_eq] at h1
    obtain ⟨⟨⟨⟨⟨⟨a, b⟩, c⟩, d⟩, e⟩, f⟩, g⟩ := h1
    exact ⟨a, b, c, d, e, f, g⟩
  · cases h
theorem shC_bad {d : Int} {v w u : ByteArray} (h : ¬ shC d v w u = 0) : shC d v w u = 2 := by
  unfold shC at h ⊢
  split
  · rename_i h1; rw [if_pos h1] at h; exact absurd rfl h
  · rfl
theorem below_drewN {W : World} (m : Nat) : Below W.heap.size W (W.drewN m) := have h := Below.refl W.heap.size W; ⟨h.os, h.tape, h.output, h.size, h.block⟩

end Go.Proofs.YtjloadllckllpaaGreatDoor
