/-
  Contracts of the sums, products and quotients of fractions, and of the laws' own copies and comparisons of fractions.
-/
import Derived.Test.YtnjkcejifoehpaaDoorLow
namespace Go.Proofs.YtnjkcejifoehpaaDoor
open Go.RowKit

theorem eqFraction_same (a b : Int) (w : World) :
    Calls Tryd.prog 25 #[.agg #[.int .i64 a, .int .i64 b], .agg #[.int .i64 a, .int .i64 b]] w fun e w' => e = .returned (.bool true) ∧ Below w.heap.size w w' := by
  go_enter Tryd.func25, Tryd.ntmps25
  go_wp2
  go_ret
  exact ⟨rfl, below2 _ _ _⟩

theorem mul_bd {a b : Int} (ha : a.natAbs ≤ 1000000000) (hb : b.natAbs ≤ 1000000000) : -1000000000000000000 ≤ a * b ∧ a * b ≤ 1000000000000000000 := by
  have h : (a * b).natAbs ≤ 1000000000 * 1000000000 := by rw [Int.natAbs_mul]; exact Nat.mul_le_mul ha hb
  omega

end Go.Proofs.YtnjkcejifoehpaaDoor
