/-
  The transposed map: columns as rows.
-/
import Derived.Test.YtkgcbbbmiklgaaaLin
namespace Go.Proofs.Ytkgcbbbmiklgaaa
open Go.RowKit

set_option maxRecDepth 100000 in
set_option maxHeartbeats 8000000 in
theorem transposed_c (x0 x1 x2 x3 x4 x5 x6 x7 x8 : Int) (w : World) :
    Calls Try.prog 47 #[.agg #[.int .i64 x0, .int .i64 x1, .int .i64 x2, .int .i64 x3, .int .i64 x4, .int .i64 x5, .int .i64 x6, .int .i64 x7, .int .i64 x8]] w fun e w' => e = .returned (.agg #[.int .i64 x0, .int .i64 x3, .int .i64 x6, .int .i64 x1, .int .i64 x4, .int .i64 x7, .int .i64 x2, .int .i64 x5, .int .i64 x8]) ∧ Below w.heap.size w w' := by
  have i0 := lin_at0 (.int .i64 x0) (.int .i64 x1) (.int .i64 x2) (.int .i64 x3) (.int .i64 x4) (.int .i64 x5) (.int .i64 x6) (.int .i64 x7) (.int .i64 x8)
  have j00 := move_at0 (.int .i64 x0) (.int .i64 x1) (.int .i64 x2)
  have j01 := move_at1 (.int .i64 x0) (.int .i64 x1) (.int .i64 x2)
  have j02 := move_at2 (.int .i64 x0) (.int .i64 x1) (.int .i64 x2)
  have i1 := lin_at1 (.int .i64 x0) (.int .i64 x1) (.int .i64 x2) (.int .i64 x3) (.int .i64 x4) (.int .i64 x5) (.int .i64 x6) (.int .i64 x7) (.int .i64 x8)
  have j10 := move_at0 (.int .i64 x3) (.int .i64 x4) (.int .i64 x5)
  have j11 := move_at1 (.int .i64 x3) (.int .i64 x4) (.int .i64 x5)
  have j12 := move_at2 (.int .i64 x3) (.int .i64 x4) (.int .i64 x5)
  have i2 := lin_at2 (.int .i64 x0) (.int .i64 x1) (.int .i64 x2) (.int .i64 x3) (.int .i64 x4) (.int .i64 x5) (.int .i64 x6) (.int .i64 x7) (.int .i64 x8)
  have j20 := move_at0 (.int .i64 x6) (.int .i64 x7) (.int .i64 x8)
  have j21 := move_at1 (.int .i64 x6) (.int .i64 x7) (.int .i64 x8)
  have j22 := move_at2 (.int .i64 x6) (.int .i64 x7) (.int .i64 x8)
  go_enter Try.func47, Try.ntmps47
  go_wp2
  refine wp_loop_rounds 4 ?_
  rw [rounds_succ]; go_wp2
  refine wp_loop_rounds 4 ?_
  rw [rounds_succ]; go_wp2
  rw [rounds_succ]; go_wp2
  rw [rounds_succ]; go_wp2
  rw [rounds_succ]; go_wp2
  rw [rounds_succ]; go_wp2
  refine wp_loop_rounds 4 ?_
  rw [rounds_succ]; go_wp2
  rw [rounds_succ]; go_wp2
  rw [rounds_succ]; go_wp2
  rw [rounds_succ]; go_wp2
  rw [rounds_succ]; go_wp2
  refine wp_loop_rounds 4 ?_
  rw [rounds_succ]; go_wp2
  rw [rounds_succ]; go_wp2
  rw [rounds_succ]; go_wp2
  rw [rounds_succ]; go_wp2
  rw [rounds_succ]; go_wp2
  exact bodyPost_ret (v := .agg #[.int .i64 x0, .int .i64 x3, .int .i64 x6, .int .i64 x1, .int .i64 x4, .int .i64 x7, .int .i64 x2, .int .i64 x5, .int .i64 x8]) (by simp [results, Try.results47, go_sem]) rfl ⟨rfl, by go_grown⟩
end Go.Proofs.Ytkgcbbbmiklgaaa
