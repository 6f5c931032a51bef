/-
  Moves (arrays of three numbers): sums, multiples.
-/
import Derived.Test.YtkgcbbbmiklgaaaIntC
import Derived.Laws.Rows
import Derived.LoopN
namespace Go.Proofs.Ytkgcbbbmiklgaaa
open Go.RowKit

/-- the three numbers of a move -/
structure Mv where
  a : Int
  b : Int
  c : Int
def Mv.small (m : Int) (v : Mv) : Prop := (-m ≤ v.a ∧ v.a ≤ m) ∧ (-m ≤ v.b ∧ v.b ≤ m) ∧ (-m ≤ v.c ∧ v.c ≤ m)
def addM (v w : Mv) : Mv := ⟨v.a + w.a, v.b + w.b, v.c + w.c⟩
def mulM (v : Mv) (k : Int) : Mv := ⟨v.a * k, v.b * k, v.c * k⟩

theorem move_at0 (x0 x1 x2 : Value) : ∀ w : World, (Instr.index 51 (.agg #[x0, x1, x2]) (.int .i64 0)).run Try.prog w = .ok x0 w := fun _ => by kernel_rfl
theorem move_at1 (x0 x1 x2 : Value) : ∀ w : World, (Instr.index 51 (.agg #[x0, x1, x2]) (.int .i64 1)).run Try.prog w = .ok x1 w := fun _ => by kernel_rfl
theorem move_at2 (x0 x1 x2 : Value) : ∀ w : World, (Instr.index 51 (.agg #[x0, x1, x2]) (.int .i64 2)).run Try.prog w = .ok x2 w := fun _ => by kernel_rfl

set_option maxHeartbeats 1000000 in
theorem plus_c (x0 x1 x2 y0 y1 y2 : Int) (h0 : -1000000 ≤ x0 ∧ x0 ≤ 1000000) (h1 : -1000000 ≤ x1 ∧ x1 ≤ 1000000) (h2 : -1000000 ≤ x2 ∧ x2 ≤ 1000000) (g0 : -1000000 ≤ y0 ∧ y0 ≤ 1000000) (g1 : -1000000 ≤ y1 ∧ y1 ≤ 1000000) (g2 : -1000000 ≤ y2 ∧ y2 ≤ 1000000) (w : World) :
    Calls Try.prog 54 #[.agg #[.int .i64 x0, .int .i64 x1, .int .i64 x2], .agg #[.int .i64 y0, .int .i64 y1, .int .i64 y2]] w fun e w' =>
      e = .returned (.agg #[.int .i64 (x0 + y0), .int .i64 (x1 + y1), .int .i64 (x2 + y2)]) ∧ Below w.heap.size w w' := by
  have i0 := move_at0 (.int .i64 y0) (.int .i64 y1) (.int .i64 y2)
  have i1 := move_at1 (.int .i64 y0) (.int .i64 y1) (.int .i64 y2)
  have i2 := move_at2 (.int .i64 y0) (.int .i64 y1) (.int .i64 y2)
  go_enter Try.func54, Try.ntmps54
  go_wp2
  refine wp_loop_rounds 4 ?_
  rw [rounds_succ]; go_wp2
  rw [rounds_succ]; go_wp2
  rw [rounds_succ]; go_wp2
  rw [rounds_succ]; go_wp2
  exact bodyPost_ret (v := .agg #[.int .i64 (x0 + y0), .int .i64 (x1 + y1), .int .i64 (x2 + y2)]) (by simp [results, Try.results54, go_sem]) rfl ⟨rfl, by go_grown⟩

set_option maxHeartbeats 1000000 in
theorem times_c (x0 x1 x2 k : Int) (h0 : -1000000 ≤ x0 * k ∧ x0 * k ≤ 1000000) (h1 : -1000000 ≤ x1 * k ∧ x1 * k ≤ 1000000) (h2 : -1000000 ≤ x2 * k ∧ x2 * k ≤ 1000000) (w : World) :
    Calls Try.prog 65 #[.agg #[.int .i64 x0, .int .i64 x1, .int .i64 x2], .int .i64 k] w fun e w' =>
      e = .returned (.agg #[.int .i64 (x0 * k), .int .i64 (x1 * k), .int .i64 (x2 * k)]) ∧ Below w.heap.size w w' := by
  go_enter Try.func65, Try.ntmps65
  go_wp2
  refine wp_loop_rounds 4 ?_
  rw [rounds_succ]; go_wp2
  rw [rounds_succ]; go_wp2
  rw [rounds_succ]; go_wp2
  rw [rounds_succ]; go_wp2
  exact bodyPost_ret (v := .agg #[.int .i64 (x0 * k), .int .i64 (x1 * k), .int .i64 (x2 * k)]) (by simp [results, Try.results65, go_sem]) rfl ⟨rfl, by go_grown⟩

theorem run_arrayAt (w : World) (g c len : Nat) (h : 3 ≤ len) : (Instr.arrayAt 51 (.slice (some ⟨g, 0, none⟩) len c)).run Try.prog w = .ok (.pointer (some ⟨g, 0, none⟩)) w := by
  have hu : Try.prog.underlying 51 = some (.array 3 2) := Try.underlying51
  have h' : ¬ len < 3 := by omega
  simp [Instr.arrayAt, Sem.run_bind, run_underlying hu, h']

/-- the numbers of a step, and 0 for those that it lacks -/
def mvOf (z : List Int) : Mv := ⟨z.getD 0 0, z.getD 1 0, z.getD 2 0⟩

theorem make_three : ∀ w : World, (Instr.makeSlice 34 (.int .i64 3) (.int .i64 3)).run Try.prog w = .ok (.slice (some ⟨w.heap.size, 0, none⟩) 3 3) (w.alloc (.cells #[.int .i64 0, .int .i64 0, .int .i64 0] 2)) := fun _ => by kernel_rfl
theorem get_zeros (z : List Int) (i : Nat) (hi : i < 3) (h : i < (z ++ [0, 0, 0]).length) : (z ++ [0, 0, 0])[i] = z.getD i 0 := by
  rw [List.getD_eq_getElem?_getD]
  by_cases hlt : i < z.length
  · rw [List.getElem_append_left hlt, List.getElem?_eq_getElem hlt]; rfl
  · rw [List.getElem_append_right (by omega), List.getElem?_eq_none (by omega)]
    have h3 : i - z.length = 0 ∨ i - z.length = 1 ∨ i - z.length = 2 := by omega
    have key : ∀ j (hj : j < [(0 : Int), 0, 0].length), [(0 : Int), 0, 0][j] = 0 := fun j hj => by
      have : j = 0 ∨ j = 1 ∨ j = 2 := by simp at hj; omega
      rcases this with rfl | rfl | rfl <;> rfl
    exact key _ _

set_option maxRecDepth 100000 in
set_option maxHeartbeats 2000000 in
theorem moveOf_c (lo hi : Nat) (a : Option Addr) (cap : Nat) (z : List Int) (hl : z.length ≤ 1000) (w : World) (hr : IRow lo hi w a z) (hh : hi ≤ w.heap.size) :
    Calls Try.prog 66 #[.slice a z.length cap] w fun e w' =>
      e = .returned (.agg #[.int .i64 (z.getD 0 0), .int .i64 (z.getD 1 0), .int .i64 (z.getD 2 0)]) ∧ Below w.heap.size w w' := by
  have HR := Lib.hid hr
  have G0 := Lib.hid (fun h => get_zeros z 0 (by omega) h)
  have G1 := Lib.hid (fun h => get_zeros z 1 (by omega) h)
  have G2 := Lib.hid (fun h => get_zeros z 2 (by omega) h)
  generalize z.getD 0 0 = x0 at G0 ⊢
  generalize z.getD 1 0 = x1 at G1 ⊢
  generalize z.getD 2 0 = x2 at G2 ⊢
  have hmk := make_three
  clear hr
  go_enter Try.func66, Try.ntmps66
  go_wp2_with fail
  clear hmk
  refine (concat2_c z [0, 0, 0] a (some ⟨w.heap.size + 1, 0, none⟩) z.length 3 cap 3 (w.heap.size + 1 + 1) _ rfl rfl (by omega) (by omega) (by simp) (by go_simp) (by go_simp) ?_ ?_).mono ?_
  · exact ((HR.out.below (below3 w _ _ _) hh).mono (Nat.zero_le _) (by simp; omega))
  · refine .inr ⟨w.heap.size + 1, 0, rfl, Nat.zero_le _, by simp, fun i hi => ?_⟩
    have : i = 0 ∨ i = 1 ∨ i = 2 := by simp at hi; omega
    rcases this with rfl | rfl | rfl <;> go_simp
  rintro e w1 ⟨a1, c1, rfl, hb1, hN1⟩
  rcases hN1 with h | ⟨g, rfl, hg1, hg2, hM, hI⟩
  · simp at h
  have hlen : (z ++ [0, 0, 0]).length = z.length + 3 := by simp
  have d0 := hI 0 (by omega)
  have d1 := hI 1 (by omega)
  have d2 := hI 2 (by omega)
  rw [G0.out (by omega), Nat.zero_add] at d0
  rw [G1.out (by omega), Nat.zero_add] at d1
  rw [G2.out (by omega), Nat.zero_add] at d2
  have harr := run_arrayAt w1 g c1 (z.length + 3) (by omega)
  have bc := bcell hb1
  have r0 : w1.cell? ⟨w.heap.size, 0, none⟩ = some (.int .i64 0) := (bc.1 _ _ (by go_size)).trans (by go_simp)
  have r1 : w1.cell? ⟨w.heap.size, 1, none⟩ = some (.int .i64 0) := (bc.1 _ _ (by go_size)).trans (by go_simp)
  have r2 : w1.cell? ⟨w.heap.size, 2, none⟩ = some (.int .i64 0) := (bc.1 _ _ (by go_size)).trans (by go_simp)
  have z0 : w1.frozen? ⟨w.heap.size, 0, none⟩ = false := (bc.2 _ _ (by go_size)).trans (by go_simp)
  have z1 : w1.frozen? ⟨w.heap.size, 1, none⟩ = false := (bc.2 _ _ (by go_size)).trans (by go_simp)
  have z2 : w1.frozen? ⟨w.heap.size, 2, none⟩ = false := (bc.2 _ _ (by go_size)).trans (by go_simp)
  have HW := Lib.hid ((below3 w _ _ _).trans (hb1.mono (by simp; omega)))
  have hz : w.heap.size < w1.heap.size := by have := hb1.size; simp at this; omega
  clear bc hb1 hM hI hlen
  go_wp2
  refine bodyPost_ret (v := .agg #[.int .i64 x0, .int .i64 x1, .int .i64 x2]) (by simp [results, Try.results66, go_sem, r0, r1, r2]) rfl ⟨rfl, ?_⟩
  exact ((HW.out.setCell (p := ⟨w.heap.size, 0, none⟩) (Nat.le_refl _) _).setCell (p := ⟨w.heap.size, 1, none⟩) (Nat.le_refl _) _).setCell (p := ⟨w.heap.size, 2, none⟩) (Nat.le_refl _) _
end Go.Proofs.Ytkgcbbbmiklgaaa
