/-
  Contracts of the functions that bring a quotient into lowest terms.
  Contracts of the sums, products and quotients of fractions, and of the laws' own copies and comparisons of fractions.
-/
import Derived.Test.YtlkeifaiohaehaaDoorFrac
import Derived.BigRegion
namespace Go.Proofs.YtlkeifaiohaehaaDoor
open Go.RowKit

theorem wrap_id {x : Int} (h : x.natAbs ≤ 4000000000000000000) : wrap64 x = x := IntWalk.wrap64_in x ⟨by omega, by omega⟩
theorem qN_neg {n d : Int} (hd : d < 0) (hn : n.natAbs ≤ 4000000000000000000) : wrap64 (-n.tdiv (gi n d)) = lowN n d := by
  have := tdiv_abs n (gi n d)
  rw [wrap_id (by omega), ← Int.tdiv_neg, lowN_neg hd]
theorem qD_neg {n d : Int} (hd : d < 0) (hn : d.natAbs ≤ 4000000000000000000) : wrap64 (-d.tdiv (gi n d)) = lowD n d := by
  have := tdiv_abs d (gi n d)
  rw [wrap_id (by omega), ← Int.tdiv_neg, lowD_neg hd]
theorem qD_pos {n d : Int} (hd : ¬ d < 0) : d / (gi n d) = lowD n d := by
  rw [ediv_tdiv (by omega), lowD_pos hd]
end Go.Proofs.YtlkeifaiohaehaaDoor

namespace Go.Proofs.YtlkeifaiohaehaaDoor
open Go.RowKit

theorem mul_bd {a b : Int} (ha : a.natAbs ≤ 1000000000) (hb : b.natAbs ≤ 1000000000) : -1000000000000000000 ≤ a * b ∧ a * b ≤ 1000000000000000000 := by
  have h : (a * b).natAbs ≤ 1000000000 * 1000000000 := by rw [Int.natAbs_mul]; exact Nat.mul_le_mul ha hb
  omega

end Go.Proofs.YtlkeifaiohaehaaDoor
