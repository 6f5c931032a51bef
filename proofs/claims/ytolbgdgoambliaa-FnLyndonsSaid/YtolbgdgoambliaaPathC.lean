/-
  Paths: what both the program and its model take for one.
  Contracts of IsPath, of the program and of its model: both return the same bool.
  Contracts of the check of one path and a level, of the program and of its model.
-/
import Derived.Test.YtolbgdgoambliaaPaths
import Derived.Test.YtolbgdgoambliaaUnitS
import Derived.Laws.Rows
import Derived.LoopN
namespace Go.Proofs.Ytolbgdgoambliaa

def stepB (L : Int) (z : List Int) : Bool := decide ((z.length : Int) = L) && z.all fun x => inB x (-100) 100
def pathB (L : Int) (ps : List (List Int)) : Bool := inB L 1 3 && decide (ps.length ≤ 12) && ps.all (stepB L)
theorem pathB_letters {L : Int} {ps : List (List Int)} (h : inB L 1 3 = false) : pathB L ps = false := by simp [pathB, h]
theorem pathB_long {L : Int} {ps : List (List Int)} (h : ¬ ps.length ≤ 12) : pathB L ps = false := by simp [pathB, h]
theorem pathB_step {L : Int} {ps : List (List Int)} (i : Nat) (hi : i < ps.length) (h : stepB L ps[i] = false) : pathB L ps = false := by
  cases hp : ps.all (stepB L) with
  | false => simp [pathB, hp]
  | true =>
    have := List.all_eq_true.1 hp _ (List.getElem_mem hi)
    rw [h] at this; cases this
theorem pathB_good {L : Int} {ps : List (List Int)} (h1 : inB L 1 3 = true) (h2 : ps.length ≤ 12) (h : ∀ i (hi : i < ps.length), stepB L ps[i] = true) : pathB L ps = true := by
  have : ps.all (stepB L) = true := List.all_eq_true.2 fun z hz => by
    obtain ⟨i, hi, rfl⟩ := List.mem_iff_getElem.1 hz
    exact h i hi
  simp [pathB, h1, h2, this]
theorem stepB_size {L : Int} {z : List Int} (h : ¬ (z.length : Int) = L) : stepB L z = false := by simp [stepB, h]
theorem stepB_num {L : Int} {z : List Int} (i : Nat) (hi : i < z.length) (h : inB z[i] (-100) 100 = false) : stepB L z = false := by
  cases hp : z.all (fun x => inB x (-100) 100) with
  | false => simp [stepB, hp]
  | true =>
    have := List.all_eq_true.1 hp _ (List.getElem_mem hi)
    rw [h] at this; cases this
theorem stepB_good {L : Int} {z : List Int} (h1 : (z.length : Int) = L) (h : ∀ i (hi : i < z.length), inB z[i] (-100) 100 = true) : stepB L z = true := by
  have : (z.all fun x => inB x (-100) 100) = true := List.all_eq_true.2 fun x hx => by
    obtain ⟨i, hi, rfl⟩ := List.mem_iff_getElem.1 hx
    exact h i hi
  simp [stepB, h1, this]
theorem pathB_true {L : Int} {ps : List (List Int)} (h : pathB L ps = true) : inB L 1 3 = true ∧ ps.length ≤ 12 ∧ ∀ i (hi : i < ps.length), stepB L ps[i] = true := by
  unfold pathB at h
  simp only [Bool.and_eq_true, decide_eq_true_eq, List.all_eq_true] at h
  exact ⟨h.1.1, h.1.2, fun i hi => h.2 _ (List.getElem_mem hi)⟩
theorem stepB_true {L : Int} {z : List Int} (h : stepB L z = true) : (z.length : Int) = L ∧ ∀ i (hi : i < z.length), -100 ≤ z[i] ∧ z[i] ≤ 100 := by
  unfold stepB at h
  simp only [Bool.and_eq_true, decide_eq_true_eq, List.all_eq_true] at h
  exact ⟨h.1, fun i hi => inB_true (h.2 _ (List.getElem_mem hi))⟩
end Go.Proofs.Ytolbgdgoambliaa

namespace Go.Proofs.Ytolbgdgoambliaa
open Go.RowKit

theorem retB {a b : Bool} (h : a = b) : Ending.returned (.bool a) = .returned (.bool b) := by rw [h]

section
variable (lo hi : Nat) (L : Int) (a : Option Addr) (cap : Nat) (ps : List (List Int)) (hl : ps.length ≤ 1048576) (hs : flat ps ≤ 1048576) (w : World) (hr : PRow lo hi w a ps)
include hl hs hr

end

def numsB (z : List Int) : Bool := z.all fun x => inB x (-100) 100
theorem numsB_no {z : List Int} (i : Nat) (hi : i < z.length) (h : inB z[i] (-100) 100 = false) : numsB z = false := by
  cases hp : z.all (fun x => inB x (-100) 100) with
  | false => exact hp
  | true =>
    have := List.all_eq_true.1 hp _ (List.getElem_mem hi)
    rw [h] at this; cases this
theorem numsB_yes {z : List Int} (h : ∀ i (hi : i < z.length), inB z[i] (-100) 100 = true) : numsB z = true := List.all_eq_true.2 fun x hx => by
  obtain ⟨i, hi, rfl⟩ := List.mem_iff_getElem.1 hx
  exact h i hi
theorem stepB_nums {L : Int} {z : List Int} (h : (z.length : Int) = L) : stepB L z = numsB z := by simp [stepB, numsB, h]

/-- do all rows have the same number of numbers, and none that is too great? -/
def rowsB (L : Int) (ps : List (List Int)) : Bool := ps.all (stepB L)
theorem rowsB_no {L : Int} {ps : List (List Int)} (i : Nat) (hi : i < ps.length) (h : stepB L ps[i] = false) : rowsB L ps = false := by
  cases hp : rowsB L ps with
  | false => rfl
  | true =>
    have := List.all_eq_true.1 hp _ (List.getElem_mem hi)
    rw [h] at this; cases this
theorem rowsB_yes {L : Int} {ps : List (List Int)} (h : ∀ i (hi : i < ps.length), stepB L ps[i] = true) : rowsB L ps = true := List.all_eq_true.2 fun z hz => by
  obtain ⟨i, hi, rfl⟩ := List.mem_iff_getElem.1 hz
  exact h i hi

theorem pathB_rows {L : Int} {ps : List (List Int)} (h1 : inB L 1 3 = true) (h2 : ps.length ≤ 12) : rowsB L ps = pathB L ps := by simp [pathB, rowsB, h1, h2]
end Go.Proofs.Ytolbgdgoambliaa

namespace Go.Proofs.Ytolbgdgoambliaa
open Go.RowKit

/-- the error of a path and a level -/
def codeP (L V : Int) (ps : List (List Int)) : Int := if pathB L ps = true then (if shapeB L V = true then 0 else 2) else 1
theorem codeP_1 {L V : Int} {ps : List (List Int)} (h : pathB L ps = false) : codeP L V ps = 1 := by simp [codeP, h]
theorem codeP_2 {L V : Int} {ps : List (List Int)} (h : pathB L ps = true) (h2 : shapeB L V = false) : codeP L V ps = 2 := by simp [codeP, h, h2]
theorem codeP_0 {L V : Int} {ps : List (List Int)} (h : pathB L ps = true) (h2 : shapeB L V = true) : codeP L V ps = 0 := by simp [codeP, h, h2]
end Go.Proofs.Ytolbgdgoambliaa
