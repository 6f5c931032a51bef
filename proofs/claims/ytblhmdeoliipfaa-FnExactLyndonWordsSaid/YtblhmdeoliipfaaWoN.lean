/-
  Contracts of WordOfNumber, of the program and of its model, and of the program's way to write one letter.
-/
import Derived.Test.YtblhmdeoliipfaaDig
import Derived.Test.YtblhmdeoliipfaaWordW
import Derived.Test.YtblhmdeoliipfaaMark
namespace Go.Proofs.Ytblhmdeoliipfaa
open Go.RowKit

theorem offs_bd {d : Int} (h : 1 ≤ d ∧ d ≤ 3) (k : Nat) (hk : k ≤ 6) : 0 ≤ offs d k ∧ offs d k ≤ 364 := by
  have hd : d = 1 ∨ d = 2 ∨ d = 3 := by omega
  have hk' : k = 0 ∨ k = 1 ∨ k = 2 ∨ k = 3 ∨ k = 4 ∨ k = 5 ∨ k = 6 := by omega
  rcases hd with rfl | rfl | rfl <;> rcases hk' with rfl | rfl | rfl | rfl | rfl | rfl | rfl <;> decide
theorem offs_next {d : Int} (k : Nat) : offs d (k + 1) * d + 1 = offs d (k + 2) := by
  have h : offs d (k + 1 + 1) - 1 = d * offs d (k + 1) := offs_step (k + 1)
  rw [Int.mul_comm, ← h]
  show offs d (k + 1 + 1) - 1 + 1 = offs d (k + 1 + 1)
  omega
theorem add_str (a b : ByteArray) : a.size + b.size = (a ++ b).size := (ByteArray.size_append ..).symm

theorem wordI_zero (d : Int) (f : Nat) (acc : ByteArray) : wordI d f 0 acc = acc := by
  cases f with
  | zero => rfl
  | succ f => simp [wordI]
def WoNRel (d k : Int) (vk vs : Value) : Prop := ∃ (j : Int) (acc : ByteArray) (f : Nat), vk = .int .i64 j ∧ vs = .string acc ∧ 0 ≤ j ∧ j ≤ f ∧ f ≤ 364 ∧ acc.size + f ≤ 364 ∧ wordI d f j acc = wordI d 364 k ByteArray.empty
end Go.Proofs.Ytblhmdeoliipfaa
