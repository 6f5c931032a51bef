/-
  Moves (arrays of three numbers): sums, multiples.
-/
import Derived.Test.YtnlapfclmpilaaaDoorIntC
import Derived.Laws.Rows
import Derived.LoopN
namespace Go.Proofs.YtnlapfclmpilaaaDoor
open Go.RowKit

/-- the three numbers of a move -/
structure Mv where
  a : Int
  b : Int
  c : Int
def Mv.small (m : Int) (v : Mv) : Prop := (-m ≤ v.a ∧ v.a ≤ m) ∧ (-m ≤ v.b ∧ v.b ≤ m) ∧ (-m ≤ v.c ∧ v.c ≤ m)
def addM (v w : Mv) : Mv := ⟨v.a + w.a, v.b + w.b, v.c + w.c⟩
def mulM (v : Mv) (k : Int) : Mv := ⟨v.a * k, v.b * k, v.c * k⟩

/-- the numbers of a step, and 0 for those that it lacks -/
def mvOf (z : List Int) : Mv := ⟨z.getD 0 0, z.getD 1 0, z.getD 2 0⟩

theorem make_three : ∀ w : World, (Instr.makeSlice 59 (.int .i64 3) (.int .i64 3)).run Tryd.prog w = .ok (.slice (some ⟨w.heap.size, 0, none⟩) 3 3) (w.alloc (.cells #[.int .i64 0, .int .i64 0, .int .i64 0] 2)) := fun _ => by kernel_rfl
theorem get_zeros (z : List Int) (i : Nat) (hi : i < 3) (h : i < (z ++ [0, 0, 0]).length) : (z ++ [0, 0, 0])[i] = z.getD i 0 := by
  rw [List.getD_eq_getElem?_getD]
  by_cases hlt : i < z.length
  · rw [List.getElem_append_left hlt, List.getElem?_eq_getElem hlt]; rfl
  · rw [List.getElem_append_right (by omega), List.getElem?_eq_none (by omega)]
    have h3 : i - z.length = 0 ∨ i - z.length = 1 ∨ i - z.length = 2 := by omega
    have key : ∀ j (hj : j < [(0 : Int), 0, 0].length), [(0 : Int), 0, 0][j] = 0 := fun j hj => by
      have : j = 0 ∨ j = 1 ∨ j = 2 := by simp at hj; omega
      rcases this with rfl | rfl | rfl <;> rfl
    exact key _ _

end Go.Proofs.YtnlapfclmpilaaaDoor
