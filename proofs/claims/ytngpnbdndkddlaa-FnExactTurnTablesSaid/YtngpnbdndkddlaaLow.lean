/-
  Contracts of the functions that bring a quotient into lowest terms.
-/
import Derived.Test.YtngpnbdndkddlaaFrac
import Derived.BigRegion
namespace Go.Proofs.Ytngpnbdndkddlaa
open Go.RowKit

theorem wrap_id {x : Int} (h : x.natAbs ≤ 4000000000000000000) : wrap64 x = x := IntWalk.wrap64_in x ⟨by omega, by omega⟩
theorem qN_neg {n d : Int} (hd : d < 0) (hn : n.natAbs ≤ 4000000000000000000) : wrap64 (-n.tdiv (gi n d)) = lowN n d := by
  have := tdiv_abs n (gi n d)
  rw [wrap_id (by omega), ← Int.tdiv_neg, lowN_neg hd]
theorem qD_neg {n d : Int} (hd : d < 0) (hn : d.natAbs ≤ 4000000000000000000) : wrap64 (-d.tdiv (gi n d)) = lowD n d := by
  have := tdiv_abs d (gi n d)
  rw [wrap_id (by omega), ← Int.tdiv_neg, lowD_neg hd]
theorem qD_pos {n d : Int} (hd : ¬ d < 0) : d / (gi n d) = lowD n d := by
  rw [ediv_tdiv (by omega), lowD_pos hd]
end Go.Proofs.Ytngpnbdndkddlaa
