/-
  Contracts of the exported functions on fractions, of the program and of its model: both return the same three numbers.
  The model's code of two series that have to be alike, and the program's test of it.
-/
import Derived.Test.YtjloadllckllpaaGreatDoorArith
import Derived.Test.YtjloadllckllpaaGreatDoorPartOf
namespace Go.Proofs.YtjloadllckllpaaGreatDoor
open Go.RowKit

theorem iAdd_c_l (a b c d : Int) (h1 : isF a b = false) (w : World) :
    Calls Tryz.prog 94 #[.agg #[.int .i64 a, .int .i64 b], .agg #[.int .i64 c, .int .i64 d]] w fun e w' =>
      e = .returned (.tuple #[.agg #[.int .i64 (addR a b c d).1, .int .i64 (addR a b c d).2.1], .int .i64 (addR a b c d).2.2]) ∧ Below w.heap.size w w' := by
    have Hr := Lib.hid (addR_l (c := c) (d := d) h1)
    go_enter Tryz.func94, Tryz.ntmps94
    go_wp2_with fail
    refine (isFraction_c _ _ _).mono ?_
    rintro e w1 ⟨rfl, hb⟩
    have hB1 := hb
    simp only [World.size_alloc] at hB1
    obtain ⟨hc, hf⟩ := bcellB hB1
    have hz : w.heap.size + 1 + 1 < w1.heap.size := by have := hB1.size; simp at this; omega
    clear hb
    have r0 : w1.cell? ⟨w.heap.size + 1 + 1, 0, none⟩ = some (.int .i64 0) := (hc _ _ (by go_size)).trans (by go_simp)
    have r1 : w1.cell? ⟨w.heap.size + 1 + 1, 1, none⟩ = some (.int .i64 0) := (hc _ _ (by go_size)).trans (by go_simp)
    have hW : Below w.heap.size w w1 := (below3 w _ _ _).trans (hB1.mono (by omega))
    clear hB1
    go_wp2
    exact bodyPost_ret (v := .tuple #[.agg #[.int .i64 (0), .int .i64 (0)], .int .i64 (1)]) (by simp [results, Tryz.results94, go_sem, r0, r1]) rfl ⟨by rw [Hr.out]; rfl, by go_grown⟩

theorem iAdd_c_r (a b c d : Int) (h1 : isF a b = true) (h2 : isF c d = false) (w : World) :
    Calls Tryz.prog 94 #[.agg #[.int .i64 a, .int .i64 b], .agg #[.int .i64 c, .int .i64 d]] w fun e w' =>
      e = .returned (.tuple #[.agg #[.int .i64 (addR a b c d).1, .int .i64 (addR a b c d).2.1], .int .i64 (addR a b c d).2.2]) ∧ Below w.heap.size w w' := by
    have Hr := Lib.hid (addR_r (a := a) (b := b) h2)
    go_enter Tryz.func94, Tryz.ntmps94
    go_wp2_with fail
    refine (isFraction_c _ _ _).mono ?_
    rintro e w1 ⟨rfl, hb⟩
    have hB1 := hb
    simp only [World.size_alloc] at hB1
    obtain ⟨hc, hf⟩ := bcellB hB1
    have hz : w.heap.size + 1 + 1 < w1.heap.size := by have := hB1.size; simp at this; omega
    clear hb
    go_wp2_with fail
    refine (isFraction_c _ _ _).mono ?_
    rintro e w2 ⟨rfl, hb⟩
    have hB2 := below_step hB1 hb (by simp)
    clear hc hf hz
    obtain ⟨hc, hf⟩ := bcellB hB2
    have hz : w.heap.size + 1 + 1 < w2.heap.size := by have := hB2.size; simp at this; omega
    clear hb
    have r0 : w2.cell? ⟨w.heap.size + 1 + 1, 0, none⟩ = some (.int .i64 0) := (hc _ _ (by go_size)).trans (by go_simp)
    have r1 : w2.cell? ⟨w.heap.size + 1 + 1, 1, none⟩ = some (.int .i64 0) := (hc _ _ (by go_size)).trans (by go_simp)
    have hW : Below w.heap.size w w2 := (below3 w _ _ _).trans (hB2.mono (by omega))
    clear hB1 hB2
    go_wp2
    exact bodyPost_ret (v := .tuple #[.agg #[.int .i64 (0), .int .i64 (0)], .int .i64 (1)]) (by simp [results, Tryz.results94, go_sem, r0, r1]) rfl ⟨by rw [Hr.out]; rfl, by go_grown⟩

theorem iAdd_c_y (a b c d : Int) (h1 : isF a b = true) (h2 : isF c d = true) (w : World) :
    Calls Tryz.prog 94 #[.agg #[.int .i64 a, .int .i64 b], .agg #[.int .i64 c, .int .i64 d]] w fun e w' =>
      e = .returned (.tuple #[.agg #[.int .i64 (addR a b c d).1, .int .i64 (addR a b c d).2.1], .int .i64 (addR a b c d).2.2]) ∧ Below w.heap.size w w' := by
    have A := isF_abs h1
    have B := isF_abs h2
    have Hr := Lib.hid (addR_y h1 h2)
    have m1 := mul_bd A.1 B.2.1
    have m2 := mul_bd B.1 A.2.1
    have m3 := mul_bd A.2.1 B.2.1
    have m4 : ¬ b * d = 0 := by intro hh; rcases Int.mul_eq_zero.1 hh with hh | hh <;> omega
    have M4 := Lib.hid m4
    clear m4
    go_enter Tryz.func94, Tryz.ntmps94
    go_wp2_with fail
    refine (isFraction_c _ _ _).mono ?_
    rintro e w1 ⟨rfl, hb⟩
    have hB1 := hb
    simp only [World.size_alloc] at hB1
    obtain ⟨hc, hf⟩ := bcellB hB1
    have hz : w.heap.size + 1 + 1 < w1.heap.size := by have := hB1.size; simp at this; omega
    clear hb
    go_wp2_with fail
    refine (isFraction_c _ _ _).mono ?_
    rintro e w2 ⟨rfl, hb⟩
    have hB2 := below_step hB1 hb (by simp)
    clear hc hf hz
    obtain ⟨hc, hf⟩ := bcellB hB2
    have hz : w.heap.size + 1 + 1 < w2.heap.size := by have := hB2.size; simp at this; omega
    clear hb
    go_wp2_with fail
    refine (lowestTerms_c _ _ (by omega) (by omega) M4.out _).mono ?_
    rintro e w3 ⟨rfl, hb⟩
    have hB3 := below_step hB2 hb (by simp)
    clear hc hf hz
    obtain ⟨hc, hf⟩ := bcellB hB3
    have hz : w.heap.size + 1 + 1 < w3.heap.size := by have := hB3.size; simp at this; omega
    clear hb
    have r0 : w3.cell? ⟨w.heap.size + 1 + 1, 0, none⟩ = some (.int .i64 0) := (hc _ _ (by go_size)).trans (by go_simp)
    have r1 : w3.cell? ⟨w.heap.size + 1 + 1, 1, none⟩ = some (.int .i64 0) := (hc _ _ (by go_size)).trans (by go_simp)
    have hW : Below w.heap.size w w3 := (below3 w _ _ _).trans (hB3.mono (by omega))
    clear hB1 hB2 hB3
    go_wp2
    exact bodyPost_ret (v := .tuple #[.agg #[.int .i64 (fN (a * d + c * b) (b * d)), .int .i64 (fD (a * d + c * b) (b * d))], .int .i64 (fC (a * d + c * b) (b * d))]) (by simp [results, Tryz.results94, go_sem, r0, r1]) rfl ⟨by rw [Hr.out]; rfl, by go_grown⟩

theorem iAdd_c (a b c d : Int) (w : World) :
    Calls Tryz.prog 94 #[.agg #[.int .i64 a, .int .i64 b], .agg #[.int .i64 c, .int .i64 d]] w fun e w' =>
      e = .returned (.tuple #[.agg #[.int .i64 (addR a b c d).1, .int .i64 (addR a b c d).2.1], .int .i64 (addR a b c d).2.2]) ∧ Below w.heap.size w w' := by
  cases h1 : isF a b with
  | false => exact iAdd_c_l a b c d h1 w
  | true =>
    cases h2 : isF c d with
    | false => exact iAdd_c_r a b c d h1 h2 w
    | true =>
      exact iAdd_c_y a b c d h1 h2 w

theorem iMul_c_l (a b c d : Int) (h1 : isF a b = false) (w : World) :
    Calls Tryz.prog 49 #[.agg #[.int .i64 a, .int .i64 b], .agg #[.int .i64 c, .int .i64 d]] w fun e w' =>
      e = .returned (.tuple #[.agg #[.int .i64 (mulR a b c d).1, .int .i64 (mulR a b c d).2.1], .int .i64 (mulR a b c d).2.2]) ∧ Below w.heap.size w w' := by
    have Hr := Lib.hid (mulR_l (c := c) (d := d) h1)
    go_enter Tryz.func49, Tryz.ntmps49
    go_wp2_with fail
    refine (isFraction_c _ _ _).mono ?_
    rintro e w1 ⟨rfl, hb⟩
    have hB1 := hb
    simp only [World.size_alloc] at hB1
    obtain ⟨hc, hf⟩ := bcellB hB1
    have hz : w.heap.size + 1 + 1 < w1.heap.size := by have := hB1.size; simp at this; omega
    clear hb
    have r0 : w1.cell? ⟨w.heap.size + 1 + 1, 0, none⟩ = some (.int .i64 0) := (hc _ _ (by go_size)).trans (by go_simp)
    have r1 : w1.cell? ⟨w.heap.size + 1 + 1, 1, none⟩ = some (.int .i64 0) := (hc _ _ (by go_size)).trans (by go_simp)
    have hW : Below w.heap.size w w1 := (below3 w _ _ _).trans (hB1.mono (by omega))
    clear hB1
    go_wp2
    exact bodyPost_ret (v := .tuple #[.agg #[.int .i64 (0), .int .i64 (0)], .int .i64 (1)]) (by simp [results, Tryz.results49, go_sem, r0, r1]) rfl ⟨by rw [Hr.out]; rfl, by go_grown⟩

theorem iMul_c_r (a b c d : Int) (h1 : isF a b = true) (h2 : isF c d = false) (w : World) :
    Calls Tryz.prog 49 #[.agg #[.int .i64 a, .int .i64 b], .agg #[.int .i64 c, .int .i64 d]] w fun e w' =>
      e = .returned (.tuple #[.agg #[.int .i64 (mulR a b c d).1, .int .i64 (mulR a b c d).2.1], .int .i64 (mulR a b c d).2.2]) ∧ Below w.heap.size w w' := by
    have Hr := Lib.hid (mulR_r (a := a) (b := b) h2)
    go_enter Tryz.func49, Tryz.ntmps49
    go_wp2_with fail
    refine (isFraction_c _ _ _).mono ?_
    rintro e w1 ⟨rfl, hb⟩
    have hB1 := hb
    simp only [World.size_alloc] at hB1
    obtain ⟨hc, hf⟩ := bcellB hB1
    have hz : w.heap.size + 1 + 1 < w1.heap.size := by have := hB1.size; simp at this; omega
    clear hb
    go_wp2_with fail
    refine (isFraction_c _ _ _).mono ?_
    rintro e w2 ⟨rfl, hb⟩
    have hB2 := below_step hB1 hb (by simp)
    clear hc hf hz
    obtain ⟨hc, hf⟩ := bcellB hB2
    have hz : w.heap.size + 1 + 1 < w2.heap.size := by have := hB2.size; simp at this; omega
    clear hb
    have r0 : w2.cell? ⟨w.heap.size + 1 + 1, 0, none⟩ = some (.int .i64 0) := (hc _ _ (by go_size)).trans (by go_simp)
    have r1 : w2.cell? ⟨w.heap.size + 1 + 1, 1, none⟩ = some (.int .i64 0) := (hc _ _ (by go_size)).trans (by go_simp)
    have hW : Below w.heap.size w w2 := (below3 w _ _ _).trans (hB2.mono (by omega))
    clear hB1 hB2
    go_wp2
    exact bodyPost_ret (v := .tuple #[.agg #[.int .i64 (0), .int .i64 (0)], .int .i64 (1)]) (by simp [results, Tryz.results49, go_sem, r0, r1]) rfl ⟨by rw [Hr.out]; rfl, by go_grown⟩

theorem iMul_c_y (a b c d : Int) (h1 : isF a b = true) (h2 : isF c d = true) (w : World) :
    Calls Tryz.prog 49 #[.agg #[.int .i64 a, .int .i64 b], .agg #[.int .i64 c, .int .i64 d]] w fun e w' =>
      e = .returned (.tuple #[.agg #[.int .i64 (mulR a b c d).1, .int .i64 (mulR a b c d).2.1], .int .i64 (mulR a b c d).2.2]) ∧ Below w.heap.size w w' := by
    have A := isF_abs h1
    have B := isF_abs h2
    have Hr := Lib.hid (mulR_y h1 h2)
    have m1 := mul_bd A.1 B.1
    have m3 := mul_bd A.2.1 B.2.1
    have m4 : ¬ b * d = 0 := by intro hh; rcases Int.mul_eq_zero.1 hh with hh | hh <;> omega
    have M4 := Lib.hid m4
    clear m4
    go_enter Tryz.func49, Tryz.ntmps49
    go_wp2_with fail
    refine (isFraction_c _ _ _).mono ?_
    rintro e w1 ⟨rfl, hb⟩
    have hB1 := hb
    simp only [World.size_alloc] at hB1
    obtain ⟨hc, hf⟩ := bcellB hB1
    have hz : w.heap.size + 1 + 1 < w1.heap.size := by have := hB1.size; simp at this; omega
    clear hb
    go_wp2_with fail
    refine (isFraction_c _ _ _).mono ?_
    rintro e w2 ⟨rfl, hb⟩
    have hB2 := below_step hB1 hb (by simp)
    clear hc hf hz
    obtain ⟨hc, hf⟩ := bcellB hB2
    have hz : w.heap.size + 1 + 1 < w2.heap.size := by have := hB2.size; simp at this; omega
    clear hb
    go_wp2_with fail
    refine (lowestTerms_c _ _ (by omega) (by omega) M4.out _).mono ?_
    rintro e w3 ⟨rfl, hb⟩
    have hB3 := below_step hB2 hb (by simp)
    clear hc hf hz
    obtain ⟨hc, hf⟩ := bcellB hB3
    have hz : w.heap.size + 1 + 1 < w3.heap.size := by have := hB3.size; simp at this; omega
    clear hb
    have r0 : w3.cell? ⟨w.heap.size + 1 + 1, 0, none⟩ = some (.int .i64 0) := (hc _ _ (by go_size)).trans (by go_simp)
    have r1 : w3.cell? ⟨w.heap.size + 1 + 1, 1, none⟩ = some (.int .i64 0) := (hc _ _ (by go_size)).trans (by go_simp)
    have hW : Below w.heap.size w w3 := (below3 w _ _ _).trans (hB3.mono (by omega))
    clear hB1 hB2 hB3
    go_wp2
    exact bodyPost_ret (v := .tuple #[.agg #[.int .i64 (fN (a * c) (b * d)), .int .i64 (fD (a * c) (b * d))], .int .i64 (fC (a * c) (b * d))]) (by simp [results, Tryz.results49, go_sem, r0, r1]) rfl ⟨by rw [Hr.out]; rfl, by go_grown⟩

theorem iMul_c (a b c d : Int) (w : World) :
    Calls Tryz.prog 49 #[.agg #[.int .i64 a, .int .i64 b], .agg #[.int .i64 c, .int .i64 d]] w fun e w' =>
      e = .returned (.tuple #[.agg #[.int .i64 (mulR a b c d).1, .int .i64 (mulR a b c d).2.1], .int .i64 (mulR a b c d).2.2]) ∧ Below w.heap.size w w' := by
  cases h1 : isF a b with
  | false => exact iMul_c_l a b c d h1 w
  | true =>
    cases h2 : isF c d with
    | false => exact iMul_c_r a b c d h1 h2 w
    | true =>
      exact iMul_c_y a b c d h1 h2 w

end Go.Proofs.YtjloadllckllpaaGreatDoor

namespace Go.Proofs.YtjloadllckllpaaGreatDoor
open Go.RowKit

def alikeB (L V L2 V2 : Int) : Bool := L == L2 && V == V2
/-- the code of two series: 1 if one is none, 2 if they are not alike -/
def codeL (L V : Int) (ts : List Tm) (L2 V2 : Int) (ys : List Tm) : Int := if serB L V ts && serB L2 V2 ys then (if alikeB L V L2 V2 then 0 else 2) else 1
theorem codeL_1 {L V : Int} {ts : List Tm} {L2 V2 : Int} {ys : List Tm} (h : serB L V ts = false) : codeL L V ts L2 V2 ys = 1 := by simp [codeL, h]
theorem codeL_2 {L V : Int} {ts : List Tm} {L2 V2 : Int} {ys : List Tm} (h : serB L2 V2 ys = false) : codeL L V ts L2 V2 ys = 1 := by simp [codeL, h]
theorem codeL_3 {L V : Int} {ts : List Tm} {L2 V2 : Int} {ys : List Tm} (h : serB L V ts = true) (h2 : serB L2 V2 ys = true) (h3 : alikeB L V L2 V2 = false) : codeL L V ts L2 V2 ys = 2 := by simp [codeL, h, h2, h3]
theorem codeL_4 {L V : Int} {ts : List Tm} {L2 V2 : Int} {ys : List Tm} (h : serB L V ts = true) (h2 : serB L2 V2 ys = true) (h3 : alikeB L V L2 V2 = true) : codeL L V ts L2 V2 ys = 0 := by simp [codeL, h, h2, h3]

theorem l01Alike_c (L V L2 V2 : Int) (a a2 : Option Addr) (n c n2 c2 : Nat) (w : World) :
    Calls Tryz.prog 36 #[.agg #[.int .i64 L, .int .i64 V, .slice a n c], .agg #[.int .i64 L2, .int .i64 V2, .slice a2 n2 c2]] w fun e w' => e = .returned (.bool (alikeB L V L2 V2)) ∧ Below w.heap.size w w' := by
  cases h1 : (L == L2) with
  | false =>
    have e : alikeB L V L2 V2 = false := by simp [alikeB, h1]
    rw [e]
    clear e
    go_enter Tryz.func36, Tryz.ntmps36
    go_wp2
    go_ret
    exact ⟨rfl, below2 _ _ _⟩
  | true =>
    have e : alikeB L V L2 V2 = (V == V2) := by simp [alikeB, h1]
    rw [e]
    clear e
    go_enter Tryz.func36, Tryz.ntmps36
    go_wp2
    go_ret
    exact ⟨rfl, below2 _ _ _⟩
theorem areAlike_c (L V L2 V2 : Int) (a a2 : Option Addr) (n c n2 c2 : Nat) (w : World) :
    Calls Tryz.prog 44 #[.agg #[.int .i64 L, .int .i64 V, .slice a n c], .agg #[.int .i64 L2, .int .i64 V2, .slice a2 n2 c2]] w fun e w' => e = .returned (.bool (alikeB L V L2 V2)) ∧ Below w.heap.size w w' := by
  cases h1 : (L == L2) with
  | false =>
    have e : alikeB L V L2 V2 = false := by simp [alikeB, h1]
    rw [e]
    clear e
    go_enter Tryz.func44, Tryz.ntmps44
    go_wp2
    go_ret
    exact ⟨rfl, below2 _ _ _⟩
  | true =>
    have e : alikeB L V L2 V2 = (V == V2) := by simp [alikeB, h1]
    rw [e]
    clear e
    go_enter Tryz.func44, Tryz.ntmps44
    go_wp2
    go_ret
    exact ⟨rfl, below2 _ _ _⟩

theorem held3c {n m : Nat} {x0 x1 x2 y0 y1 y2 : Value} {W w' : World} (hb : Below W.heap.size W w') (hn : n < W.heap.size) (hm : m < W.heap.size)
    (h : W.cell? ⟨n, 0, none⟩ = some x0 ∧ W.cell? ⟨n, 1, none⟩ = some x1 ∧ W.cell? ⟨n, 2, none⟩ = some x2 ∧ W.cell? ⟨m, 0, none⟩ = some y0 ∧ W.cell? ⟨m, 1, none⟩ = some y1 ∧ W.cell? ⟨m, 2, none⟩ = some y2) :
    w'.cell? ⟨n, 0, none⟩ = some x0 ∧ w'.cell? ⟨n, 1, none⟩ = some x1 ∧ w'.cell? ⟨n, 2, none⟩ = some x2 ∧ w'.cell? ⟨m, 0, none⟩ = some y0 ∧ w'.cell? ⟨m, 1, none⟩ = some y1 ∧ w'.cell? ⟨m, 2, none⟩ = some y2 := held33 hb hn hm h

set_option maxRecDepth 100000 in
set_option maxHeartbeats 4000000 in
theorem l01Code_c (L V L2 V2 : Int) (b1 o1 c1 b2 o2 c2 lb : Nat) (ts ys : List Tm) (hl1 : ts.length ≤ 1048576) (hl2 : ys.length ≤ 1048576) (hs1 : ∀ i (h : i < ts.length), (ts[i]).s.size ≤ maxLen) (hs2 : ∀ i (h : i < ys.length), (ys[i]).s.size ≤ maxLen) (w : World)
    (h1 : b1 < w.heap.size) (h2 : b2 < w.heap.size) (h3 : lb < w.heap.size) (t1 : TermsIn w b1 o1 ts) (t2 : TermsIn w b2 o2 ys)
    (l0 : w.cell? ⟨lb, 0, none⟩ = some (.int .i64 L2)) (l1 : w.cell? ⟨lb, 1, none⟩ = some (.int .i64 V2)) (l2 : w.cell? ⟨lb, 2, none⟩ = some (.slice (some ⟨b2, o2, none⟩) ys.length c2)) :
    Calls Tryz.prog 18 #[.agg #[.int .i64 L, .int .i64 V, .slice (some ⟨b1, o1, none⟩) ts.length c1], .slice (some ⟨lb, 0, none⟩) 1 1] w fun e w' => e = .returned (.int .i64 (codeL L V ts L2 V2 ys)) ∧ Below w.heap.size w w' := by
  have HT1 := Lib.hid t1
  have HT2 := Lib.hid t2
  have HS1 := Lib.hid hs1
  have HS2 := Lib.hid hs2
  have C0 := Lib.hid (((Cs.nil w).cons h3 l2).cons h3 l1 |>.cons h3 l0)
  clear t1 t2 hs1 hs2 l0 l1 l2
  go_enter Tryz.func18, Tryz.ntmps18
  go_wp2_with fail
  refine (l01Is_c L V b1 o1 _ ts hl1 HS1.out _ (by simp; omega) (HT1.out.below (below1 w _) h1)).mono ?_
  rintro e w1 ⟨rfl, hb1⟩
  have hz1 : w.heap.size < w1.heap.size := by have := hb1.size; simp at this; omega
  have C1 := Lib.hid ((C0.out.box3 (.int .i64 L) (.int .i64 V) (.slice (some ⟨b1, o1, none⟩) ts.length c1) 28).below hb1 (Nat.le_refl _))
  have B1 := Lib.hid ((below1 w (.cells #[.int .i64 L, .int .i64 V, .slice (some ⟨b1, o1, none⟩) ts.length c1] 28)).trans (hb1.mono (by simp)))
  clear hb1 C0
  cases hs1 : serB L V ts with
  | false =>
    have HC := Lib.hid (codeL_1 (L2 := L2) (V2 := V2) (ys := ys) hs1)
    clear hs1
    go_wp2
    go_ret
    exact ⟨by first | (rw [HC.out]; done) | (rw [HC.out]; rfl), B1.out⟩
  | true =>
    have HS1t := Lib.hid hs1
    clear hs1
    go_wp2_with fail
    go_loopw [5] (fun vi wr => (vi = .int .i64 0 ∨ (vi = .int .i64 1 ∧ serB L2 V2 ys = true)) ∧ Below w1.heap.size w1 wr) (fun vi _ => 1 - (intOf vi).toNat)
    case atStart => exact ⟨.inl rfl, Below.refl _ _⟩
    case round =>
      obtain ⟨hi, hB⟩ := hrel
      have Cr := Lib.hid (C1.out.below hB (Nat.le_refl _))
      have Br := Lib.hid (B1.out.trans (hB.mono B1.out.size))
      have HB := Lib.hid hB
      have hzr := hB.size
      clear hB
      rcases hi with rfl | ⟨rfl, hs2⟩
      · have m0 := Cr.out.get 3 rfl
        have m1 := Cr.out.get 4 rfl
        have m2 := Cr.out.get 5 rfl
        go_wp2_with fail
        refine (l01Is_c L2 V2 b2 o2 _ ys hl2 HS2.out _ (by omega) (HT2.out.below Br.out h2)).mono ?_
        clear m0 m1 m2
        rintro e w2 ⟨rfl, hb2⟩
        have HB2 := Lib.hid (HB.out.trans (hb2.mono hzr))
        have B2 := Lib.hid (Br.out.trans (hb2.mono Br.out.size))
        clear hb2
        cases hs2 : serB L2 V2 ys with
        | false =>
          have HC := Lib.hid (codeL_2 (L := L) (V := V) (ts := ts) hs2)
          clear hs2
          go_wp2
          go_ret
          exact ⟨by first | (rw [HC.out]; done) | (rw [HC.out]; rfl), B2.out⟩
        | true =>
          have HS2t := Lib.hid hs2
          clear hs2
          go_wp2
          go_roundw
          case rel => first | exact ⟨.inr ⟨rfl, HS2t.out⟩, HB2.out⟩ | exact ⟨.inr ⟨rfl, trivial⟩, HB2.out⟩
          case measure => simp [intOf]
      · have HS2t := Lib.hid hs2
        obtain ⟨w2, rfl⟩ : ∃ w2 : World, w2 = wr := ⟨_, rfl⟩
        clear hs2
        go_wp2_with fail
        go_loopw [6] (fun vi wr => (vi = .int .i64 0 ∨ (vi = .int .i64 1 ∧ alikeB L V L2 V2 = true)) ∧ Below w2.heap.size w2 wr) (fun vi _ => 1 - (intOf vi).toNat)
        case atStart => exact ⟨.inl rfl, Below.refl _ _⟩
        case round =>
          obtain ⟨hi, hB⟩ := hrel
          have C3 := Lib.hid (Cr.out.below hB (Nat.le_refl _))
          have B3 := Lib.hid (Br.out.trans (hB.mono Br.out.size))
          have HB3 := Lib.hid hB
          have hzr3 := hB.size
          clear hB
          rcases hi with rfl | ⟨rfl, hs3⟩
          · have a0 := C3.out.get 0 rfl
            have a1 := C3.out.get 1 rfl
            have a2 := C3.out.get 2 rfl
            have m0 := C3.out.get 3 rfl
            have m1 := C3.out.get 4 rfl
            have m2 := C3.out.get 5 rfl
            have hz3 : w.heap.size < wr.heap.size := by omega
            have hz4 : lb < wr.heap.size := by omega
            cases ha : alikeB L V L2 V2 with
            | false =>
              have HC := Lib.hid (codeL_3 HS1t.out HS2t.out ha)
              have HA := Lib.hid ha
              clear ha
              go_upto_region 11 with fail
              go_cut [34] (fun s wy => s = .bool true ∧ Below wr.heap.size wr wy)
              case first =>
                go_region_held3 (fun w' => w'.cell? ⟨w.heap.size, 0, none⟩ = some (.int .i64 L) ∧ w'.cell? ⟨w.heap.size, 1, none⟩ = some (.int .i64 V) ∧ w'.cell? ⟨w.heap.size, 2, none⟩ = some (.slice (some ⟨b1, o1, none⟩) ts.length c1) ∧ w'.cell? ⟨lb, 0, none⟩ = some (.int .i64 L2) ∧ w'.cell? ⟨lb, 1, none⟩ = some (.int .i64 V2) ∧ w'.cell? ⟨lb, 2, none⟩ = some (.slice (some ⟨b2, o2, none⟩) ys.length c2))
                  (first | (refine held33 hb5 ?_ ?_ ⟨a0, a1, a2, m0, m1, m2⟩ <;> assumption) | go_keep)
                  ((go_at_call 36; refine (l01Alike_c L V L2 V2 _ _ _ _ _ _ _).mono ?_; rw [HA.out]; rintro e w5 ⟨rfl, hb0⟩; have hb5 : Below wr.heap.size wr w5 := ⟨hb0.os, hb0.tape, hb0.output, hb0.size, hb0.block⟩))
                all_goals (go_wp2_with fail; go_meet)
                all_goals exact ⟨rfl, hb5⟩
              case rest =>
                obtain ⟨rfl, hBy⟩ := hcut
                have B5 := Lib.hid (B3.out.trans (hBy.mono B3.out.size))
                clear hBy a0 a1 a2 m0 m1 m2
                go_wp2
                go_ret
                exact ⟨by first | (rw [HC.out]; done) | (rw [HC.out]; rfl), B5.out⟩
            | true =>
              have HA := Lib.hid ha
              clear ha
              go_upto_region 11 with fail
              go_cut [34] (fun s wy => s = .bool false ∧ Below wr.heap.size wr wy)
              case first =>
                go_region_held3 (fun w' => w'.cell? ⟨w.heap.size, 0, none⟩ = some (.int .i64 L) ∧ w'.cell? ⟨w.heap.size, 1, none⟩ = some (.int .i64 V) ∧ w'.cell? ⟨w.heap.size, 2, none⟩ = some (.slice (some ⟨b1, o1, none⟩) ts.length c1) ∧ w'.cell? ⟨lb, 0, none⟩ = some (.int .i64 L2) ∧ w'.cell? ⟨lb, 1, none⟩ = some (.int .i64 V2) ∧ w'.cell? ⟨lb, 2, none⟩ = some (.slice (some ⟨b2, o2, none⟩) ys.length c2))
                  (first | (refine held33 hb5 ?_ ?_ ⟨a0, a1, a2, m0, m1, m2⟩ <;> assumption) | go_keep)
                  ((go_at_call 36; refine (l01Alike_c L V L2 V2 _ _ _ _ _ _ _).mono ?_; rw [HA.out]; rintro e w5 ⟨rfl, hb0⟩; have hb5 : Below wr.heap.size wr w5 := ⟨hb0.os, hb0.tape, hb0.output, hb0.size, hb0.block⟩))
                all_goals (go_wp2_with fail; go_meet)
                all_goals exact ⟨rfl, hb5⟩
              case rest =>
                obtain ⟨rfl, hBy⟩ := hcut
                have B5 := Lib.hid (HB3.out.trans (hBy.mono hzr3))
                clear hBy a0 a1 a2 m0 m1 m2
                go_wp2
                go_roundw
                case rel => first | exact ⟨.inr ⟨rfl, HA.out⟩, B5.out⟩ | exact ⟨.inr ⟨rfl, trivial⟩, B5.out⟩
                case measure => simp [intOf]
          · have HC := Lib.hid (codeL_4 HS1t.out HS2t.out hs3)
            clear hs3
            go_wp2
            go_ret
            exact ⟨by first | (rw [HC.out]; done) | (rw [HC.out]; rfl), B3.out⟩
end Go.Proofs.YtjloadllckllpaaGreatDoor
