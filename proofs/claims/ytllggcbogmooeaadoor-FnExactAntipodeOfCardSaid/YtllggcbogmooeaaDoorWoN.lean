/-
  Contracts of WordOfNumber, of the program and of its model, and of the program's way to write one letter.
-/
import Derived.Test.YtllggcbogmooeaaDoorDig
import Derived.Test.YtllggcbogmooeaaDoorWordW
import Derived.Test.YtllggcbogmooeaaDoorMark
namespace Go.Proofs.YtllggcbogmooeaaDoor
open Go.RowKit

theorem small_c (i : Int) (h : i = 0 ∨ i = 1 ∨ i = 2) (w : World) :
    Calls Tryd.prog 65 #[.int .i64 i] w fun e w' => e = .returned (.string (letW i)) ∧ w = w' := by
  rcases h with rfl | rfl | rfl
  all_goals
    go_enter Tryd.func65, Tryd.ntmps65
    go_wp2
    go_ret
    exact ⟨rfl, rfl⟩
theorem formatInt0_c (i : Int) (h : i = 0 ∨ i = 1 ∨ i = 2) (w : World) :
    Calls Tryd.prog 64 #[.int .i64 i, .int .i64 10] w fun e w' => e = .returned (.string (letW i)) ∧ w = w' := by
  have HI := Lib.hid h
  have h0 : 0 ≤ i := by omega
  have h1 : i ≤ 2 := by omega
  clear h
  go_enter Tryd.func64, Tryd.ntmps64
  go_wp2_with (go_at_call 65; refine (small_c _ HI.out _).mono ?_; rintro e w' ⟨rfl, rfl⟩)
  go_ret
  exact ⟨rfl, rfl⟩
theorem letterWord_c (i : Int) (h0 : 0 ≤ i) (h1 : i ≤ 2) (w : World) :
    Calls Tryd.prog 60 #[.int .i64 i] w fun e w' => e = .returned (.string (letW i)) ∧ w = w' := by
  have hf : ∀ w : World, Calls Tryd.prog 63 #[.int .i64 i, .int .i64 10] w fun e w' => e = .returned (.string (letW i)) ∧ w = w' := by
    intro w
    go_enter Tryd.func63, Tryd.ntmps63
    go_wp2_with (go_at_call 64; refine (formatInt0_c _ (by omega) _).mono ?_; rintro e w' ⟨rfl, rfl⟩)
    go_ret
    exact ⟨rfl, rfl⟩
  have HF := Lib.hid hf
  clear hf
  go_enter Tryd.func60, Tryd.ntmps60
  go_wp2_with (go_at_call 63; refine (HF.out _).mono ?_; rintro e w' ⟨rfl, rfl⟩)
  go_ret
  exact ⟨rfl, rfl⟩

theorem offs_bd {d : Int} (h : 1 ≤ d ∧ d ≤ 3) (k : Nat) (hk : k ≤ 6) : 0 ≤ offs d k ∧ offs d k ≤ 364 := by
  have hd : d = 1 ∨ d = 2 ∨ d = 3 := by omega
  have hk' : k = 0 ∨ k = 1 ∨ k = 2 ∨ k = 3 ∨ k = 4 ∨ k = 5 ∨ k = 6 := by omega
  rcases hd with rfl | rfl | rfl <;> rcases hk' with rfl | rfl | rfl | rfl | rfl | rfl | rfl <;> decide
theorem offs_next {d : Int} (k : Nat) : offs d (k + 1) * d + 1 = offs d (k + 2) := by
  have h : offs d (k + 1 + 1) - 1 = d * offs d (k + 1) := offs_step (k + 1)
  rw [Int.mul_comm, ← h]
  show offs d (k + 1 + 1) - 1 + 1 = offs d (k + 1 + 1)
  omega
theorem add_str (a b : ByteArray) : a.size + b.size = (a ++ b).size := (ByteArray.size_append ..).symm

theorem wordI_zero (d : Int) (f : Nat) (acc : ByteArray) : wordI d f 0 acc = acc := by
  cases f with
  | zero => rfl
  | succ f => simp [wordI]
def WoNRel (d k : Int) (vk vs : Value) : Prop := ∃ (j : Int) (acc : ByteArray) (f : Nat), vk = .int .i64 j ∧ vs = .string acc ∧ 0 ≤ j ∧ j ≤ f ∧ f ≤ 364 ∧ acc.size + f ≤ 364 ∧ wordI d f j acc = wordI d 364 k ByteArray.empty
end Go.Proofs.YtllggcbogmooeaaDoor
