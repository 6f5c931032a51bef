/-
  Contracts of the exported functions on fractions, of the program and of its model: both return the same three numbers.
  The model's code of two series that have to be alike, and the program's test of it.
-/
import Derived.Test.YtknigggjnjkhbaaArith
import Derived.Test.YtknigggjnjkhbaaPartOf
namespace Go.Proofs.Ytknigggjnjkhbaa
open Go.RowKit

theorem iAdd_c_l (a b c d : Int) (h1 : isF a b = false) (w : World) :
    Calls Try.prog 89 #[.agg #[.int .i64 a, .int .i64 b], .agg #[.int .i64 c, .int .i64 d]] w fun e w' =>
      e = .returned (.tuple #[.agg #[.int .i64 (addR a b c d).1, .int .i64 (addR a b c d).2.1], .int .i64 (addR a b c d).2.2]) ∧ Below w.heap.size w w' := by
    have Hr := Lib.hid (addR_l (c := c) (d := d) h1)
    go_enter Try.func89, Try.ntmps89
    go_wp2_with fail
    refine (isFraction_c _ _ _).mono ?_
    rintro e w1 ⟨rfl, hb⟩
    have hB1 := hb
    simp only [World.size_alloc] at hB1
    obtain ⟨hc, hf⟩ := bcellB hB1
    have hz : w.heap.size + 1 + 1 < w1.heap.size := by have := hB1.size; simp at this; omega
    clear hb
    have r0 : w1.cell? ⟨w.heap.size + 1 + 1, 0, none⟩ = some (.int .i64 0) := (hc _ _ (by go_size)).trans (by go_simp)
    have r1 : w1.cell? ⟨w.heap.size + 1 + 1, 1, none⟩ = some (.int .i64 0) := (hc _ _ (by go_size)).trans (by go_simp)
    have hW : Below w.heap.size w w1 := (below3 w _ _ _).trans (hB1.mono (by omega))
    clear hB1
    go_wp2
    exact bodyPost_ret (v := .tuple #[.agg #[.int .i64 (0), .int .i64 (0)], .int .i64 (1)]) (by simp [results, Try.results89, go_sem, r0, r1]) rfl ⟨by rw [Hr.out]; rfl, by go_grown⟩

theorem iAdd_c_r (a b c d : Int) (h1 : isF a b = true) (h2 : isF c d = false) (w : World) :
    Calls Try.prog 89 #[.agg #[.int .i64 a, .int .i64 b], .agg #[.int .i64 c, .int .i64 d]] w fun e w' =>
      e = .returned (.tuple #[.agg #[.int .i64 (addR a b c d).1, .int .i64 (addR a b c d).2.1], .int .i64 (addR a b c d).2.2]) ∧ Below w.heap.size w w' := by
    have Hr := Lib.hid (addR_r (a := a) (b := b) h2)
    go_enter Try.func89, Try.ntmps89
    go_wp2_with fail
    refine (isFraction_c _ _ _).mono ?_
    rintro e w1 ⟨rfl, hb⟩
    have hB1 := hb
    simp only [World.size_alloc] at hB1
    obtain ⟨hc, hf⟩ := bcellB hB1
    have hz : w.heap.size + 1 + 1 < w1.heap.size := by have := hB1.size; simp at this; omega
    clear hb
    go_wp2_with fail
    refine (isFraction_c _ _ _).mono ?_
    rintro e w2 ⟨rfl, hb⟩
    have hB2 := below_step hB1 hb (by simp)
    clear hc hf hz
    obtain ⟨hc, hf⟩ := bcellB hB2
    have hz : w.heap.size + 1 + 1 < w2.heap.size := by have := hB2.size; simp at this; omega
    clear hb
    have r0 : w2.cell? ⟨w.heap.size + 1 + 1, 0, none⟩ = some (.int .i64 0) := (hc _ _ (by go_size)).trans (by go_simp)
    have r1 : w2.cell? ⟨w.heap.size + 1 + 1, 1, none⟩ = some (.int .i64 0) := (hc _ _ (by go_size)).trans (by go_simp)
    have hW : Below w.heap.size w w2 := (below3 w _ _ _).trans (hB2.mono (by omega))
    clear hB1 hB2
    go_wp2
    exact bodyPost_ret (v := .tuple #[.agg #[.int .i64 (0), .int .i64 (0)], .int .i64 (1)]) (by simp [results, Try.results89, go_sem, r0, r1]) rfl ⟨by rw [Hr.out]; rfl, by go_grown⟩

theorem iAdd_c_y (a b c d : Int) (h1 : isF a b = true) (h2 : isF c d = true) (w : World) :
    Calls Try.prog 89 #[.agg #[.int .i64 a, .int .i64 b], .agg #[.int .i64 c, .int .i64 d]] w fun e w' =>
      e = .returned (.tuple #[.agg #[.int .i64 (addR a b c d).1, .int .i64 (addR a b c d).2.1], .int .i64 (addR a b c d).2.2]) ∧ Below w.heap.size w w' := by
    have A := isF_abs h1
    have B := isF_abs h2
    have Hr := Lib.hid (addR_y h1 h2)
    have m1 := mul_bd A.1 B.2.1
    have m2 := mul_bd B.1 A.2.1
    have m3 := mul_bd A.2.1 B.2.1
    have m4 : ¬ b * d = 0 := by intro hh; rcases Int.mul_eq_zero.1 hh with hh | hh <;> omega
    have M4 := Lib.hid m4
    clear m4
    go_enter Try.func89, Try.ntmps89
    go_wp2_with fail
    refine (isFraction_c _ _ _).mono ?_
    rintro e w1 ⟨rfl, hb⟩
    have hB1 := hb
    simp only [World.size_alloc] at hB1
    obtain ⟨hc, hf⟩ := bcellB hB1
    have hz : w.heap.size + 1 + 1 < w1.heap.size := by have := hB1.size; simp at this; omega
    clear hb
    go_wp2_with fail
    refine (isFraction_c _ _ _).mono ?_
    rintro e w2 ⟨rfl, hb⟩
    have hB2 := below_step hB1 hb (by simp)
    clear hc hf hz
    obtain ⟨hc, hf⟩ := bcellB hB2
    have hz : w.heap.size + 1 + 1 < w2.heap.size := by have := hB2.size; simp at this; omega
    clear hb
    go_wp2_with fail
    refine (lowestTerms_c _ _ (by omega) (by omega) M4.out _).mono ?_
    rintro e w3 ⟨rfl, hb⟩
    have hB3 := below_step hB2 hb (by simp)
    clear hc hf hz
    obtain ⟨hc, hf⟩ := bcellB hB3
    have hz : w.heap.size + 1 + 1 < w3.heap.size := by have := hB3.size; simp at this; omega
    clear hb
    have r0 : w3.cell? ⟨w.heap.size + 1 + 1, 0, none⟩ = some (.int .i64 0) := (hc _ _ (by go_size)).trans (by go_simp)
    have r1 : w3.cell? ⟨w.heap.size + 1 + 1, 1, none⟩ = some (.int .i64 0) := (hc _ _ (by go_size)).trans (by go_simp)
    have hW : Below w.heap.size w w3 := (below3 w _ _ _).trans (hB3.mono (by omega))
    clear hB1 hB2 hB3
    go_wp2
    exact bodyPost_ret (v := .tuple #[.agg #[.int .i64 (fN (a * d + c * b) (b * d)), .int .i64 (fD (a * d + c * b) (b * d))], .int .i64 (fC (a * d + c * b) (b * d))]) (by simp [results, Try.results89, go_sem, r0, r1]) rfl ⟨by rw [Hr.out]; rfl, by go_grown⟩

theorem iAdd_c (a b c d : Int) (w : World) :
    Calls Try.prog 89 #[.agg #[.int .i64 a, .int .i64 b], .agg #[.int .i64 c, .int .i64 d]] w fun e w' =>
      e = .returned (.tuple #[.agg #[.int .i64 (addR a b c d).1, .int .i64 (addR a b c d).2.1], .int .i64 (addR a b c d).2.2]) ∧ Below w.heap.size w w' := by
  cases h1 : isF a b with
  | false => exact iAdd_c_l a b c d h1 w
  | true =>
    cases h2 : isF c d with
    | false => exact iAdd_c_r a b c d h1 h2 w
    | true =>
      exact iAdd_c_y a b c d h1 h2 w

theorem iMul_c_l (a b c d : Int) (h1 : isF a b = false) (w : World) :
    Calls Try.prog 88 #[.agg #[.int .i64 a, .int .i64 b], .agg #[.int .i64 c, .int .i64 d]] w fun e w' =>
      e = .returned (.tuple #[.agg #[.int .i64 (mulR a b c d).1, .int .i64 (mulR a b c d).2.1], .int .i64 (mulR a b c d).2.2]) ∧ Below w.heap.size w w' := by
    have Hr := Lib.hid (mulR_l (c := c) (d := d) h1)
    go_enter Try.func88, Try.ntmps88
    go_wp2_with fail
    refine (isFraction_c _ _ _).mono ?_
    rintro e w1 ⟨rfl, hb⟩
    have hB1 := hb
    simp only [World.size_alloc] at hB1
    obtain ⟨hc, hf⟩ := bcellB hB1
    have hz : w.heap.size + 1 + 1 < w1.heap.size := by have := hB1.size; simp at this; omega
    clear hb
    have r0 : w1.cell? ⟨w.heap.size + 1 + 1, 0, none⟩ = some (.int .i64 0) := (hc _ _ (by go_size)).trans (by go_simp)
    have r1 : w1.cell? ⟨w.heap.size + 1 + 1, 1, none⟩ = some (.int .i64 0) := (hc _ _ (by go_size)).trans (by go_simp)
    have hW : Below w.heap.size w w1 := (below3 w _ _ _).trans (hB1.mono (by omega))
    clear hB1
    go_wp2
    exact bodyPost_ret (v := .tuple #[.agg #[.int .i64 (0), .int .i64 (0)], .int .i64 (1)]) (by simp [results, Try.results88, go_sem, r0, r1]) rfl ⟨by rw [Hr.out]; rfl, by go_grown⟩

theorem iMul_c_r (a b c d : Int) (h1 : isF a b = true) (h2 : isF c d = false) (w : World) :
    Calls Try.prog 88 #[.agg #[.int .i64 a, .int .i64 b], .agg #[.int .i64 c, .int .i64 d]] w fun e w' =>
      e = .returned (.tuple #[.agg #[.int .i64 (mulR a b c d).1, .int .i64 (mulR a b c d).2.1], .int .i64 (mulR a b c d).2.2]) ∧ Below w.heap.size w w' := by
    have Hr := Lib.hid (mulR_r (a := a) (b := b) h2)
    go_enter Try.func88, Try.ntmps88
    go_wp2_with fail
    refine (isFraction_c _ _ _).mono ?_
    rintro e w1 ⟨rfl, hb⟩
    have hB1 := hb
    simp only [World.size_alloc] at hB1
    obtain ⟨hc, hf⟩ := bcellB hB1
    have hz : w.heap.size + 1 + 1 < w1.heap.size := by have := hB1.size; simp at this; omega
    clear hb
    go_wp2_with fail
    refine (isFraction_c _ _ _).mono ?_
    rintro e w2 ⟨rfl, hb⟩
    have hB2 := below_step hB1 hb (by simp)
    clear hc hf hz
    obtain ⟨hc, hf⟩ := bcellB hB2
    have hz : w.heap.size + 1 + 1 < w2.heap.size := by have := hB2.size; simp at this; omega
    clear hb
    have r0 : w2.cell? ⟨w.heap.size + 1 + 1, 0, none⟩ = some (.int .i64 0) := (hc _ _ (by go_size)).trans (by go_simp)
    have r1 : w2.cell? ⟨w.heap.size + 1 + 1, 1, none⟩ = some (.int .i64 0) := (hc _ _ (by go_size)).trans (by go_simp)
    have hW : Below w.heap.size w w2 := (below3 w _ _ _).trans (hB2.mono (by omega))
    clear hB1 hB2
    go_wp2
    exact bodyPost_ret (v := .tuple #[.agg #[.int .i64 (0), .int .i64 (0)], .int .i64 (1)]) (by simp [results, Try.results88, go_sem, r0, r1]) rfl ⟨by rw [Hr.out]; rfl, by go_grown⟩

theorem iMul_c_y (a b c d : Int) (h1 : isF a b = true) (h2 : isF c d = true) (w : World) :
    Calls Try.prog 88 #[.agg #[.int .i64 a, .int .i64 b], .agg #[.int .i64 c, .int .i64 d]] w fun e w' =>
      e = .returned (.tuple #[.agg #[.int .i64 (mulR a b c d).1, .int .i64 (mulR a b c d).2.1], .int .i64 (mulR a b c d).2.2]) ∧ Below w.heap.size w w' := by
    have A := isF_abs h1
    have B := isF_abs h2
    have Hr := Lib.hid (mulR_y h1 h2)
    have m1 := mul_bd A.1 B.1
    have m3 := mul_bd A.2.1 B.2.1
    have m4 : ¬ b * d = 0 := by intro hh; rcases Int.mul_eq_zero.1 hh with hh | hh <;> omega
    have M4 := Lib.hid m4
    clear m4
    go_enter Try.func88, Try.ntmps88
    go_wp2_with fail
    refine (isFraction_c _ _ _).mono ?_
    rintro e w1 ⟨rfl, hb⟩
    have hB1 := hb
    simp only [World.size_alloc] at hB1
    obtain ⟨hc, hf⟩ := bcellB hB1
    have hz : w.heap.size + 1 + 1 < w1.heap.size := by have := hB1.size; simp at this; omega
    clear hb
    go_wp2_with fail
    refine (isFraction_c _ _ _).mono ?_
    rintro e w2 ⟨rfl, hb⟩
    have hB2 := below_step hB1 hb (by simp)
    clear hc hf hz
    obtain ⟨hc, hf⟩ := bcellB hB2
    have hz : w.heap.size + 1 + 1 < w2.heap.size := by have := hB2.size; simp at this; omega
    clear hb
    go_wp2_with fail
    refine (lowestTerms_c _ _ (by omega) (by omega) M4.out _).mono ?_
    rintro e w3 ⟨rfl, hb⟩
    have hB3 := below_step hB2 hb (by simp)
    clear hc hf hz
    obtain ⟨hc, hf⟩ := bcellB hB3
    have hz : w.heap.size + 1 + 1 < w3.heap.size := by have := hB3.size; simp at this; omega
    clear hb
    have r0 : w3.cell? ⟨w.heap.size + 1 + 1, 0, none⟩ = some (.int .i64 0) := (hc _ _ (by go_size)).trans (by go_simp)
    have r1 : w3.cell? ⟨w.heap.size + 1 + 1, 1, none⟩ = some (.int .i64 0) := (hc _ _ (by go_size)).trans (by go_simp)
    have hW : Below w.heap.size w w3 := (below3 w _ _ _).trans (hB3.mono (by omega))
    clear hB1 hB2 hB3
    go_wp2
    exact bodyPost_ret (v := .tuple #[.agg #[.int .i64 (fN (a * c) (b * d)), .int .i64 (fD (a * c) (b * d))], .int .i64 (fC (a * c) (b * d))]) (by simp [results, Try.results88, go_sem, r0, r1]) rfl ⟨by rw [Hr.out]; rfl, by go_grown⟩

theorem iMul_c (a b c d : Int) (w : World) :
    Calls Try.prog 88 #[.agg #[.int .i64 a, .int .i64 b], .agg #[.int .i64 c, .int .i64 d]] w fun e w' =>
      e = .returned (.tuple #[.agg #[.int .i64 (mulR a b c d).1, .int .i64 (mulR a b c d).2.1], .int .i64 (mulR a b c d).2.2]) ∧ Below w.heap.size w w' := by
  cases h1 : isF a b with
  | false => exact iMul_c_l a b c d h1 w
  | true =>
    cases h2 : isF c d with
    | false => exact iMul_c_r a b c d h1 h2 w
    | true =>
      exact iMul_c_y a b c d h1 h2 w

end Go.Proofs.Ytknigggjnjkhbaa

namespace Go.Proofs.Ytknigggjnjkhbaa
open Go.RowKit

def alikeB (L V L2 V2 : Int) : Bool := L == L2 && V == V2
/-- the code of two series: 1 if one is none, 2 if they are not alike -/
def codeL (L V : Int) (ts : List Tm) (L2 V2 : Int) (ys : List Tm) : Int := if serB L V ts && serB L2 V2 ys then (if alikeB L V L2 V2 then 0 else 2) else 1
theorem codeL_1 {L V : Int} {ts : List Tm} {L2 V2 : Int} {ys : List Tm} (h : serB L V ts = false) : codeL L V ts L2 V2 ys = 1 := by simp [codeL, h]
theorem codeL_2 {L V : Int} {ts : List Tm} {L2 V2 : Int} {ys : List Tm} (h : serB L2 V2 ys = false) : codeL L V ts L2 V2 ys = 1 := by simp [codeL, h]
theorem codeL_3 {L V : Int} {ts : List Tm} {L2 V2 : Int} {ys : List Tm} (h : serB L V ts = true) (h2 : serB L2 V2 ys = true) (h3 : alikeB L V L2 V2 = false) : codeL L V ts L2 V2 ys = 2 := by simp [codeL, h, h2, h3]
theorem codeL_4 {L V : Int} {ts : List Tm} {L2 V2 : Int} {ys : List Tm} (h : serB L V ts = true) (h2 : serB L2 V2 ys = true) (h3 : alikeB L V L2 V2 = true) : codeL L V ts L2 V2 ys = 0 := by simp [codeL, h, h2, h3]

theorem held3c {n m : Nat} {x0 x1 x2 y0 y1 y2 : Value} {W w' : World} (hb : Below W.heap.size W w') (hn : n < W.heap.size) (hm : m < W.heap.size)
    (h : W.cell? ⟨n, 0, none⟩ = some x0 ∧ W.cell? ⟨n, 1, none⟩ = some x1 ∧ W.cell? ⟨n, 2, none⟩ = some x2 ∧ W.cell? ⟨m, 0, none⟩ = some y0 ∧ W.cell? ⟨m, 1, none⟩ = some y1 ∧ W.cell? ⟨m, 2, none⟩ = some y2) :
    w'.cell? ⟨n, 0, none⟩ = some x0 ∧ w'.cell? ⟨n, 1, none⟩ = some x1 ∧ w'.cell? ⟨n, 2, none⟩ = some x2 ∧ w'.cell? ⟨m, 0, none⟩ = some y0 ∧ w'.cell? ⟨m, 1, none⟩ = some y1 ∧ w'.cell? ⟨m, 2, none⟩ = some y2 := held33 hb hn hm h

end Go.Proofs.Ytknigggjnjkhbaa
