/-
  Contracts of the functions that bring a quotient into lowest terms.
  Contracts of the sums, products and quotients of fractions, and of the laws' own copies and comparisons of fractions.
-/
import Derived.Test.YtlaaldpejjlbkaaDoorFrac
import Derived.BigRegion
namespace Go.Proofs.YtlaaldpejjlbkaaDoor
open Go.RowKit

theorem wrap_id {x : Int} (h : x.natAbs ≤ 4000000000000000000) : wrap64 x = x := IntWalk.wrap64_in x ⟨by omega, by omega⟩
theorem qN_neg {n d : Int} (hd : d < 0) (hn : n.natAbs ≤ 4000000000000000000) : wrap64 (-n.tdiv (gi n d)) = lowN n d := by
  have := tdiv_abs n (gi n d)
  rw [wrap_id (by omega), ← Int.tdiv_neg, lowN_neg hd]
theorem qD_neg {n d : Int} (hd : d < 0) (hn : d.natAbs ≤ 4000000000000000000) : wrap64 (-d.tdiv (gi n d)) = lowD n d := by
  have := tdiv_abs d (gi n d)
  rw [wrap_id (by omega), ← Int.tdiv_neg, lowD_neg hd]
theorem qD_pos {n d : Int} (hd : ¬ d < 0) : d / (gi n d) = lowD n d := by
  rw [ediv_tdiv (by omega), lowD_pos hd]
end Go.Proofs.YtlaaldpejjlbkaaDoor

namespace Go.Proofs.YtlaaldpejjlbkaaDoor
open Go.RowKit

theorem toFraction_c (n d : Int) (w : World) :
    Calls Tryd.prog 49 #[.agg #[.int .i64 n, .int .i64 d]] w fun e w' => e = .returned (.agg #[.int .i64 n, .int .i64 d]) ∧ Below w.heap.size w w' := by
  go_enter Tryd.func49, Tryd.ntmps49
  go_wp2
  refine bodyPost_ret (v := .agg #[.int .i64 n, .int .i64 d]) (by simp [results, Tryd.results49, go_sem]) rfl ⟨rfl, ?_⟩
  go_grown

theorem eqFraction_same (a b : Int) (w : World) :
    Calls Tryd.prog 61 #[.agg #[.int .i64 a, .int .i64 b], .agg #[.int .i64 a, .int .i64 b]] w fun e w' => e = .returned (.bool true) ∧ Below w.heap.size w w' := by
  go_enter Tryd.func61, Tryd.ntmps61
  go_wp2
  go_ret
  exact ⟨rfl, below2 _ _ _⟩

theorem isZero_c (n d : Int) (w : World) :
    Calls Tryd.prog 33 #[.agg #[.int .i64 n, .int .i64 d]] w fun e w' => e = .returned (.bool (n == 0 && d == 1)) ∧ Below w.heap.size w w' := by
  go_enter Tryd.func33, Tryd.ntmps33
  go_wp2
  all_goals
    go_ret
    refine ⟨?_, below1 _ _⟩
    simp_all

theorem l01Zero_c (n d : Int) (w : World) :
    Calls Tryd.prog 28 #[.agg #[.int .i64 n, .int .i64 d]] w fun e w' => e = .returned (.bool (n == 0)) ∧ Below w.heap.size w w' := by
  go_enter Tryd.func28, Tryd.ntmps28
  go_wp2
  go_ret
  exact ⟨rfl, below1 _ _⟩

theorem mul_bd {a b : Int} (ha : a.natAbs ≤ 1000000000) (hb : b.natAbs ≤ 1000000000) : -1000000000000000000 ≤ a * b ∧ a * b ≤ 1000000000000000000 := by
  have h : (a * b).natAbs ≤ 1000000000 * 1000000000 := by rw [Int.natAbs_mul]; exact Nat.mul_le_mul ha hb
  omega

end Go.Proofs.YtlaaldpejjlbkaaDoor
