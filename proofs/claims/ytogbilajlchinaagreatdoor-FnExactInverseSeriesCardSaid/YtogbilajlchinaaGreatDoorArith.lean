/-
  Contracts of the sums, products and quotients of fractions, and of the laws' own copies and comparisons of fractions.
-/
import Derived.Test.YtogbilajlchinaaGreatDoorLow
namespace Go.Proofs.YtogbilajlchinaaGreatDoor
open Go.RowKit

theorem toFraction_c (n d : Int) (w : World) :
    Calls Tryz.prog 119 #[.agg #[.int .i64 n, .int .i64 d]] w fun e w' => e = .returned (.agg #[.int .i64 n, .int .i64 d]) ∧ Below w.heap.size w w' := by
  go_enter Tryz.func119, Tryz.ntmps119
  go_wp2
  refine bodyPost_ret (v := .agg #[.int .i64 n, .int .i64 d]) (by simp [results, Tryz.results119, go_sem]) rfl ⟨rfl, ?_⟩
  go_grown

theorem eqFraction_same (a b : Int) (w : World) :
    Calls Tryz.prog 127 #[.agg #[.int .i64 a, .int .i64 b], .agg #[.int .i64 a, .int .i64 b]] w fun e w' => e = .returned (.bool true) ∧ Below w.heap.size w w' := by
  go_enter Tryz.func127, Tryz.ntmps127
  go_wp2
  go_ret
  exact ⟨rfl, below2 _ _ _⟩

theorem isZero_c (n d : Int) (w : World) :
    Calls Tryz.prog 37 #[.agg #[.int .i64 n, .int .i64 d]] w fun e w' => e = .returned (.bool (n == 0 && d == 1)) ∧ Below w.heap.size w w' := by
  go_enter Tryz.func37, Tryz.ntmps37
  go_wp2
  all_goals
    go_ret
    refine ⟨?_, below1 _ _⟩
    simp_all

theorem l01Zero_c (n d : Int) (w : World) :
    Calls Tryz.prog 32 #[.agg #[.int .i64 n, .int .i64 d]] w fun e w' => e = .returned (.bool (n == 0)) ∧ Below w.heap.size w w' := by
  go_enter Tryz.func32, Tryz.ntmps32
  go_wp2
  go_ret
  exact ⟨rfl, below1 _ _⟩

theorem mul_bd {a b : Int} (ha : a.natAbs ≤ 1000000000) (hb : b.natAbs ≤ 1000000000) : -1000000000000000000 ≤ a * b ∧ a * b ≤ 1000000000000000000 := by
  have h : (a * b).natAbs ≤ 1000000000 * 1000000000 := by rw [Int.natAbs_mul]; exact Nat.mul_le_mul ha hb
  omega

theorem l01Plus_c (a b c d : Int) (ha : a.natAbs ≤ 1000000000) (hb : b.natAbs ≤ 1000000000) (hc : c.natAbs ≤ 1000000000) (hd : d.natAbs ≤ 1000000000) (w : World) :
    Calls Tryz.prog 129 #[.agg #[.int .i64 a, .int .i64 b], .agg #[.int .i64 c, .int .i64 d]] w fun e w' =>
      e = .returned (.tuple #[.agg #[.int .i64 (fN (a * d + c * b) (b * d)), .int .i64 (fD (a * d + c * b) (b * d))], .bool (fOk (a * d + c * b) (b * d))]) ∧ Below w.heap.size w w' := by
  have m1 := mul_bd ha hd
  have m2 := mul_bd hc hb
  have m3 := mul_bd hb hd
  go_enter Tryz.func129, Tryz.ntmps129
  go_wp2_with fail
  refine (l01Frac_c _ _ (by omega) (by omega) _).mono ?_
  rintro e w1 ⟨rfl, hb⟩
  have bc := bcell hb
  have r0 : w1.cell? ⟨w.heap.size + 1 + 1, 0, none⟩ = some (.int .i64 0) := (bc.1 _ _ (by go_size)).trans (by go_simp)
  have r1 : w1.cell? ⟨w.heap.size + 1 + 1, 1, none⟩ = some (.int .i64 0) := (bc.1 _ _ (by go_size)).trans (by go_simp)
  have z0 : w1.frozen? ⟨w.heap.size + 1 + 1, 0, none⟩ = false := (bc.2 _ _ (by go_size)).trans (by go_simp)
  have z1 : w1.frozen? ⟨w.heap.size + 1 + 1, 1, none⟩ = false := (bc.2 _ _ (by go_size)).trans (by go_simp)
  have hW : Below w.heap.size w w1 := (below3 w _ _ _).trans (hb.mono (by simp; omega))
  have hz : w.heap.size + 1 + 1 < w1.heap.size := by have := hb.size; simp at this; omega
  clear bc hb
  go_wp2
  exact bodyPost_ret (v := .tuple #[.agg #[.int .i64 (fN (a * d + c * b) (b * d)), .int .i64 (fD (a * d + c * b) (b * d))], .bool (fOk (a * d + c * b) (b * d))]) (by simp [results, Tryz.results129, go_sem, r0, r1, hz]) rfl ⟨rfl, by go_grown⟩

theorem l01TimesFrac_c (a b c d : Int) (ha : a.natAbs ≤ 1000000000) (hb : b.natAbs ≤ 1000000000) (hc : c.natAbs ≤ 1000000000) (hd : d.natAbs ≤ 1000000000) (w : World) :
    Calls Tryz.prog 117 #[.agg #[.int .i64 a, .int .i64 b], .agg #[.int .i64 c, .int .i64 d]] w fun e w' =>
      e = .returned (.tuple #[.agg #[.int .i64 (fN (a * c) (b * d)), .int .i64 (fD (a * c) (b * d))], .bool (fOk (a * c) (b * d))]) ∧ Below w.heap.size w w' := by
  have m1 := mul_bd ha hc
  have m3 := mul_bd hb hd
  go_enter Tryz.func117, Tryz.ntmps117
  go_wp2_with fail
  refine (l01Frac_c _ _ (by omega) (by omega) _).mono ?_
  rintro e w1 ⟨rfl, hb⟩
  have bc := bcell hb
  have r0 : w1.cell? ⟨w.heap.size + 1 + 1, 0, none⟩ = some (.int .i64 0) := (bc.1 _ _ (by go_size)).trans (by go_simp)
  have r1 : w1.cell? ⟨w.heap.size + 1 + 1, 1, none⟩ = some (.int .i64 0) := (bc.1 _ _ (by go_size)).trans (by go_simp)
  have z0 : w1.frozen? ⟨w.heap.size + 1 + 1, 0, none⟩ = false := (bc.2 _ _ (by go_size)).trans (by go_simp)
  have z1 : w1.frozen? ⟨w.heap.size + 1 + 1, 1, none⟩ = false := (bc.2 _ _ (by go_size)).trans (by go_simp)
  have hW : Below w.heap.size w w1 := (below3 w _ _ _).trans (hb.mono (by simp; omega))
  have hz : w.heap.size + 1 + 1 < w1.heap.size := by have := hb.size; simp at this; omega
  clear bc hb
  go_wp2
  exact bodyPost_ret (v := .tuple #[.agg #[.int .i64 (fN (a * c) (b * d)), .int .i64 (fD (a * c) (b * d))], .bool (fOk (a * c) (b * d))]) (by simp [results, Tryz.results117, go_sem, r0, r1, hz]) rfl ⟨rfl, by go_grown⟩

theorem l01Over_c (a b c d : Int) (ha : a.natAbs ≤ 1000000000) (hb : b.natAbs ≤ 1000000000) (hc : c.natAbs ≤ 1000000000) (hd : d.natAbs ≤ 1000000000) (w : World) :
    Calls Tryz.prog 82 #[.agg #[.int .i64 a, .int .i64 b], .agg #[.int .i64 c, .int .i64 d]] w fun e w' =>
      e = .returned (.tuple #[.agg #[.int .i64 (fN (a * d) (b * c)), .int .i64 (fD (a * d) (b * c))], .bool (fOk (a * d) (b * c))]) ∧ Below w.heap.size w w' := by
  have m1 := mul_bd ha hd
  have m3 := mul_bd hb hc
  go_enter Tryz.func82, Tryz.ntmps82
  go_wp2_with fail
  refine (l01Frac_c _ _ (by omega) (by omega) _).mono ?_
  rintro e w1 ⟨rfl, hb⟩
  have bc := bcell hb
  have r0 : w1.cell? ⟨w.heap.size + 1 + 1, 0, none⟩ = some (.int .i64 0) := (bc.1 _ _ (by go_size)).trans (by go_simp)
  have r1 : w1.cell? ⟨w.heap.size + 1 + 1, 1, none⟩ = some (.int .i64 0) := (bc.1 _ _ (by go_size)).trans (by go_simp)
  have z0 : w1.frozen? ⟨w.heap.size + 1 + 1, 0, none⟩ = false := (bc.2 _ _ (by go_size)).trans (by go_simp)
  have z1 : w1.frozen? ⟨w.heap.size + 1 + 1, 1, none⟩ = false := (bc.2 _ _ (by go_size)).trans (by go_simp)
  have hW : Below w.heap.size w w1 := (below3 w _ _ _).trans (hb.mono (by simp; omega))
  have hz : w.heap.size + 1 + 1 < w1.heap.size := by have := hb.size; simp at this; omega
  clear bc hb
  go_wp2
  exact bodyPost_ret (v := .tuple #[.agg #[.int .i64 (fN (a * d) (b * c)), .int .i64 (fD (a * d) (b * c))], .bool (fOk (a * d) (b * c))]) (by simp [results, Tryz.results82, go_sem, r0, r1, hz]) rfl ⟨rfl, by go_grown⟩


end Go.Proofs.YtogbilajlchinaaGreatDoor
