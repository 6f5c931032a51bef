/-
  Contracts of the sums, products and quotients of fractions, and of the laws' own copies and comparisons of fractions.
-/
import Derived.Test.YtimakdejccaanaaDoorLow
namespace Go.Proofs.YtimakdejccaanaaDoor
open Go.RowKit

theorem toFraction_c (n d : Int) (w : World) :
    Calls Tryd.prog 5 #[.agg #[.int .i64 n, .int .i64 d]] w fun e w' => e = .returned (.agg #[.int .i64 n, .int .i64 d]) ∧ Below w.heap.size w w' := by
  go_enter Tryd.func5, Tryd.ntmps5
  go_wp2
  refine bodyPost_ret (v := .agg #[.int .i64 n, .int .i64 d]) (by simp [results, Tryd.results5, go_sem]) rfl ⟨rfl, ?_⟩
  go_grown

theorem mul_bd {a b : Int} (ha : a.natAbs ≤ 1000000000) (hb : b.natAbs ≤ 1000000000) : -1000000000000000000 ≤ a * b ∧ a * b ≤ 1000000000000000000 := by
  have h : (a * b).natAbs ≤ 1000000000 * 1000000000 := by rw [Int.natAbs_mul]; exact Nat.mul_le_mul ha hb
  omega

end Go.Proofs.YtimakdejccaanaaDoor
