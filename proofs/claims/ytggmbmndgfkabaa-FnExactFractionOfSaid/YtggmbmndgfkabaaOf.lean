/-
  Contracts of FractionOf, of the program and of its model: both return the same three numbers.
-/
import Derived.Test.YtggmbmndgfkabaaArith
namespace Go.Proofs.Ytggmbmndgfkabaa
open Go.RowKit

theorem sOf_c_l (n d : Int) (h1 : inB n (-1000000000000000000) 1000000000000000000 = false) (w : World) :
    Calls Try.prog 18 #[.int .i64 n, .int .i64 d] w fun e w' =>
      e = .returned (.tuple #[.agg #[.int .i64 (ofR n d).1, .int .i64 (ofR n d).2.1], .int .i64 (ofR n d).2.2]) ∧ Below w.heap.size w w' := by
  have Hr := Lib.hid (ofR_l (d := d) h1)
  go_enter Try.func18, Try.ntmps18
  go_wp2_with (go_at_call 49; refine (l01In_c _ _ _ _).mono ?_; rintro e w' ⟨rfl, rfl⟩)
  exact bodyPost_ret (v := .tuple #[.agg #[.int .i64 (0), .int .i64 (0)], .int .i64 (2)]) (by simp [results, Try.results18, go_sem]) rfl ⟨by rw [Hr.out]; rfl, by go_grown⟩

theorem sOf_c_r (n d : Int) (h1 : inB n (-1000000000000000000) 1000000000000000000 = true) (h2 : inB d (-1000000000000000000) 1000000000000000000 = false) (w : World) :
    Calls Try.prog 18 #[.int .i64 n, .int .i64 d] w fun e w' =>
      e = .returned (.tuple #[.agg #[.int .i64 (ofR n d).1, .int .i64 (ofR n d).2.1], .int .i64 (ofR n d).2.2]) ∧ Below w.heap.size w w' := by
  have Hr := Lib.hid (ofR_r (n := n) h2)
  go_enter Try.func18, Try.ntmps18
  go_wp2_with (go_at_call 49; refine (l01In_c _ _ _ _).mono ?_; rintro e w' ⟨rfl, rfl⟩)
  exact bodyPost_ret (v := .tuple #[.agg #[.int .i64 (0), .int .i64 (0)], .int .i64 (2)]) (by simp [results, Try.results18, go_sem]) rfl ⟨by rw [Hr.out]; rfl, by go_grown⟩

theorem sOf_c_z (n d : Int) (h1 : inB n (-1000000000000000000) 1000000000000000000 = true) (h2 : inB d (-1000000000000000000) 1000000000000000000 = true) (h0 : d = 0) (w : World) :
    Calls Try.prog 18 #[.int .i64 n, .int .i64 d] w fun e w' =>
      e = .returned (.tuple #[.agg #[.int .i64 (ofR n d).1, .int .i64 (ofR n d).2.1], .int .i64 (ofR n d).2.2]) ∧ Below w.heap.size w w' := by
  have Hr := Lib.hid (ofR_z h1 h2 h0)
  subst h0
  go_enter Try.func18, Try.ntmps18
  go_wp2_with (go_at_call 49; refine (l01In_c _ _ _ _).mono ?_; rintro e w' ⟨rfl, rfl⟩)
  exact bodyPost_ret (v := .tuple #[.agg #[.int .i64 (0), .int .i64 (0)], .int .i64 (5)]) (by simp [results, Try.results18, go_sem]) rfl ⟨by rw [Hr.out]; rfl, by go_grown⟩

theorem sOf_c_y (n d : Int) (h1 : inB n (-1000000000000000000) 1000000000000000000 = true) (h2 : inB d (-1000000000000000000) 1000000000000000000 = true) (h0 : ¬ d = 0) (w : World) :
    Calls Try.prog 18 #[.int .i64 n, .int .i64 d] w fun e w' =>
      e = .returned (.tuple #[.agg #[.int .i64 (ofR n d).1, .int .i64 (ofR n d).2.1], .int .i64 (ofR n d).2.2]) ∧ Below w.heap.size w w' := by
  have Hr := Lib.hid (ofR_y h1 h2 h0)
  have A := inB_true h1
  have B := inB_true h2
  have e0 : (d == 0) = false := by simpa using h0
  cases hk : fOk n d
  all_goals
    have Hk := Lib.hid hk
    go_enter Try.func18, Try.ntmps18
    go_wp2_with (first | (go_at_call 49; refine (l01In_c _ _ _ _).mono ?_; rintro e w' ⟨rfl, rfl⟩) | fail)
    refine (l01Frac_c _ _ (by omega) (by omega) _).mono ?_
    rintro e w1 ⟨rfl, hb⟩
    have bc := bcell hb
    have r0 : w1.cell? ⟨w.heap.size, 0, none⟩ = some (.int .i64 0) := (bc.1 _ _ (by go_size)).trans (by go_simp)
    have r1 : w1.cell? ⟨w.heap.size, 1, none⟩ = some (.int .i64 0) := (bc.1 _ _ (by go_size)).trans (by go_simp)
    have z0 : w1.frozen? ⟨w.heap.size, 0, none⟩ = false := (bc.2 _ _ (by go_size)).trans (by go_simp)
    have z1 : w1.frozen? ⟨w.heap.size, 1, none⟩ = false := (bc.2 _ _ (by go_size)).trans (by go_simp)
    have hW : Below w.heap.size w w1 := (below1 w _).trans (hb.mono (by simp))
    have hz : w.heap.size < w1.heap.size := by have := hb.size; simp at this; omega
    clear bc hb
    rw [hk]
    clear hk
    go_wp2
    first
      | exact bodyPost_ret (v := .tuple #[.agg #[.int .i64 (fN n d), .int .i64 (fD n d)], .int .i64 (0)]) (by simp [results, Try.results18, go_sem, r0, r1, hz]) rfl ⟨by rw [Hr.out, q3_yes Hk.out], by go_grown⟩
      | exact bodyPost_ret (v := .tuple #[.agg #[.int .i64 (0), .int .i64 (0)], .int .i64 (3)]) (by simp [results, Try.results18, go_sem, r0, r1, hz]) rfl ⟨by rw [Hr.out, q3_no Hk.out], by go_grown⟩

theorem sOf_c (n d : Int) (w : World) :
    Calls Try.prog 18 #[.int .i64 n, .int .i64 d] w fun e w' =>
      e = .returned (.tuple #[.agg #[.int .i64 (ofR n d).1, .int .i64 (ofR n d).2.1], .int .i64 (ofR n d).2.2]) ∧ Below w.heap.size w w' := by
  cases h1 : inB n (-1000000000000000000) 1000000000000000000 with
  | false => exact sOf_c_l n d h1 w
  | true =>
    cases h2 : inB d (-1000000000000000000) 1000000000000000000 with
    | false => exact sOf_c_r n d h1 h2 w
    | true =>
      by_cases h0 : d = 0
      · exact sOf_c_z n d h1 h2 h0 w
      · exact sOf_c_y n d h1 h2 h0 w

theorem iOf_c_l (n d : Int) (h1 : inB n (-1000000000000000000) 1000000000000000000 = false) (w : World) :
    Calls Try.prog 19 #[.int .i64 n, .int .i64 d] w fun e w' =>
      e = .returned (.tuple #[.agg #[.int .i64 (ofR n d).1, .int .i64 (ofR n d).2.1], .int .i64 (ofR n d).2.2]) ∧ Below w.heap.size w w' := by
  have Hr := Lib.hid (ofR_l (d := d) h1)
  go_enter Try.func19, Try.ntmps19
  go_wp2_with (go_at_call 47; refine (isBetween_c _ _ _ _).mono ?_; rintro e w' ⟨rfl, rfl⟩)
  exact bodyPost_ret (v := .tuple #[.agg #[.int .i64 (0), .int .i64 (0)], .int .i64 (2)]) (by simp [results, Try.results19, go_sem]) rfl ⟨by rw [Hr.out]; rfl, by go_grown⟩

theorem iOf_c_r (n d : Int) (h1 : inB n (-1000000000000000000) 1000000000000000000 = true) (h2 : inB d (-1000000000000000000) 1000000000000000000 = false) (w : World) :
    Calls Try.prog 19 #[.int .i64 n, .int .i64 d] w fun e w' =>
      e = .returned (.tuple #[.agg #[.int .i64 (ofR n d).1, .int .i64 (ofR n d).2.1], .int .i64 (ofR n d).2.2]) ∧ Below w.heap.size w w' := by
  have Hr := Lib.hid (ofR_r (n := n) h2)
  go_enter Try.func19, Try.ntmps19
  go_wp2_with (go_at_call 47; refine (isBetween_c _ _ _ _).mono ?_; rintro e w' ⟨rfl, rfl⟩)
  exact bodyPost_ret (v := .tuple #[.agg #[.int .i64 (0), .int .i64 (0)], .int .i64 (2)]) (by simp [results, Try.results19, go_sem]) rfl ⟨by rw [Hr.out]; rfl, by go_grown⟩

theorem iOf_c_z (n d : Int) (h1 : inB n (-1000000000000000000) 1000000000000000000 = true) (h2 : inB d (-1000000000000000000) 1000000000000000000 = true) (h0 : d = 0) (w : World) :
    Calls Try.prog 19 #[.int .i64 n, .int .i64 d] w fun e w' =>
      e = .returned (.tuple #[.agg #[.int .i64 (ofR n d).1, .int .i64 (ofR n d).2.1], .int .i64 (ofR n d).2.2]) ∧ Below w.heap.size w w' := by
  have Hr := Lib.hid (ofR_z h1 h2 h0)
  subst h0
  go_enter Try.func19, Try.ntmps19
  go_wp2_with (go_at_call 47; refine (isBetween_c _ _ _ _).mono ?_; rintro e w' ⟨rfl, rfl⟩)
  exact bodyPost_ret (v := .tuple #[.agg #[.int .i64 (0), .int .i64 (0)], .int .i64 (5)]) (by simp [results, Try.results19, go_sem]) rfl ⟨by rw [Hr.out]; rfl, by go_grown⟩

theorem iOf_c_y (n d : Int) (h1 : inB n (-1000000000000000000) 1000000000000000000 = true) (h2 : inB d (-1000000000000000000) 1000000000000000000 = true) (h0 : ¬ d = 0) (w : World) :
    Calls Try.prog 19 #[.int .i64 n, .int .i64 d] w fun e w' =>
      e = .returned (.tuple #[.agg #[.int .i64 (ofR n d).1, .int .i64 (ofR n d).2.1], .int .i64 (ofR n d).2.2]) ∧ Below w.heap.size w w' := by
  have Hr := Lib.hid (ofR_y h1 h2 h0)
  have A := inB_true h1
  have B := inB_true h2
  have e0 : (d == 0) = false := by simpa using h0
  go_enter Try.func19, Try.ntmps19
  go_wp2_with (first | (go_at_call 47; refine (isBetween_c _ _ _ _).mono ?_; rintro e w' ⟨rfl, rfl⟩) | fail)
  refine (lowestTerms_c _ _ (by omega) (by omega) h0 _).mono ?_
  rintro e w1 ⟨rfl, hb⟩
  have bc := bcell hb
  have r0 : w1.cell? ⟨w.heap.size, 0, none⟩ = some (.int .i64 0) := (bc.1 _ _ (by go_size)).trans (by go_simp)
  have r1 : w1.cell? ⟨w.heap.size, 1, none⟩ = some (.int .i64 0) := (bc.1 _ _ (by go_size)).trans (by go_simp)
  have z0 : w1.frozen? ⟨w.heap.size, 0, none⟩ = false := (bc.2 _ _ (by go_size)).trans (by go_simp)
  have z1 : w1.frozen? ⟨w.heap.size, 1, none⟩ = false := (bc.2 _ _ (by go_size)).trans (by go_simp)
  have hW : Below w.heap.size w w1 := (below1 w _).trans (hb.mono (by simp))
  have hz : w.heap.size < w1.heap.size := by have := hb.size; simp at this; omega
  clear bc hb
  go_wp2
  exact bodyPost_ret (v := .tuple #[.agg #[.int .i64 (fN n d), .int .i64 (fD n d)], .int .i64 (fC n d)]) (by simp [results, Try.results19, go_sem, r0, r1]) rfl ⟨by rw [Hr.out]; rfl, by go_grown⟩

theorem iOf_c (n d : Int) (w : World) :
    Calls Try.prog 19 #[.int .i64 n, .int .i64 d] w fun e w' =>
      e = .returned (.tuple #[.agg #[.int .i64 (ofR n d).1, .int .i64 (ofR n d).2.1], .int .i64 (ofR n d).2.2]) ∧ Below w.heap.size w w' := by
  cases h1 : inB n (-1000000000000000000) 1000000000000000000 with
  | false => exact iOf_c_l n d h1 w
  | true =>
    cases h2 : inB d (-1000000000000000000) 1000000000000000000 with
    | false => exact iOf_c_r n d h1 h2 w
    | true =>
      by_cases h0 : d = 0
      · exact iOf_c_z n d h1 h2 h0 w
      · exact iOf_c_y n d h1 h2 h0 w

end Go.Proofs.Ytggmbmndgfkabaa
