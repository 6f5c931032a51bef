/-
  Which letters and levels a series may have, and which terms: the plain words for it, and the contracts of the two functions on letters and levels.
  Contracts of IsSeries, of the program and of its model: both return the same bool.
  Contract of IsSeries of the program.
-/
import Derived.Test.YtolbgdgoambliaaOrd
import Derived.Test.YtolbgdgoambliaaSer
namespace Go.Proofs.Ytolbgdgoambliaa
open Go.RowKit

def shapeB (L V : Int) : Bool := decide (1 ≤ L ∧ L ≤ 3 ∧ 1 ≤ V ∧ V ≤ 5 ∧ (L < 3 ∨ V ≤ 4))
theorem shape_1 {L V : Int} (h : inB L 1 3 = false) : shapeB L V = false := by
  have := inB_false h; simp only [shapeB, decide_eq_false_iff_not]; omega
theorem shape_2 {L V : Int} (h : inB V 1 5 = false) : shapeB L V = false := by
  have := inB_false h; simp only [shapeB, decide_eq_false_iff_not]; omega
theorem shape_3 {L V : Int} (h : ¬ L < 3) (h2 : ¬ V ≤ 4) : shapeB L V = false := by
  simp only [shapeB, decide_eq_false_iff_not]; omega
theorem shape_4 {L V : Int} (h1 : inB L 1 3 = true) (h2 : inB V 1 5 = true) (h : L < 3 ∨ V ≤ 4) : shapeB L V = true := by
  have := inB_true h1
  have := inB_true h2
  simp only [shapeB, decide_eq_true_iff]; omega
theorem shape_out {L V : Int} (h : shapeB L V = true) : 1 ≤ L ∧ L ≤ 3 ∧ 1 ≤ V ∧ V ≤ 5 ∧ (L < 3 ∨ V ≤ 4) := by simpa [shapeB] using h

/-- is the term one that a series may have? is it ahead of the one at its place? -/
def termB (L V : Int) (t : Tm) : Bool := decide ((t.s.size : Int) ≤ V) && wordB L t.s.data.toList && (isF t.n t.d && !(t.n == 0))
def goodAt (L V : Int) (ts : List Tm) (k : Nat) : Bool :=
  match ts[k]? with
  | none => true
  | some t => termB L V t && (match k with
    | 0 => true
    | j + 1 => match ts[j]? with
      | none => true
      | some p => lessL p.s.data.toList t.s.data.toList)
def serB (L V : Int) (ts : List Tm) : Bool := shapeB L V && (List.range ts.length).all (goodAt L V ts)
theorem serB_shape {L V : Int} {ts : List Tm} (h : shapeB L V = false) : serB L V ts = false := by simp [serB, h]
theorem serB_bad {L V : Int} {ts : List Tm} (k : Nat) (hk : k < ts.length) (h : goodAt L V ts k = false) : serB L V ts = false := by
  unfold serB
  have : (List.range ts.length).all (goodAt L V ts) = false := by
    rw [List.all_eq_false]
    exact ⟨k, List.mem_range.2 hk, by rw [h]; simp⟩
  rw [this, Bool.and_false]
theorem serB_good {L V : Int} {ts : List Tm} (h : shapeB L V = true) (ha : ∀ k, k < ts.length → goodAt L V ts k = true) : serB L V ts = true := by
  unfold serB
  rw [h, Bool.true_and, List.all_eq_true]
  exact fun k hk => ha k (List.mem_range.1 hk)
theorem goodAt_term {L V : Int} {ts : List Tm} {k : Nat} {t : Tm} (ht : ts[k]? = some t) (h : termB L V t = false) : goodAt L V ts k = false := by
  simp [goodAt, ht, h]
theorem goodAt_zero {L V : Int} {ts : List Tm} {t : Tm} (ht : ts[0]? = some t) (h : termB L V t = true) : goodAt L V ts 0 = true := by
  simp [goodAt, ht, h]
theorem goodAt_succ {L V : Int} {ts : List Tm} {j : Nat} {t p : Tm} (ht : ts[j + 1]? = some t) (hp : ts[j]? = some p) (h : termB L V t = true) : goodAt L V ts (j + 1) = lessL p.s.data.toList t.s.data.toList := by
  simp [goodAt, ht, hp, h]
end Go.Proofs.Ytolbgdgoambliaa

namespace Go.Proofs.Ytolbgdgoambliaa
open Go.RowKit

theorem term_size {L V : Int} {t : Tm} (h : V < (t.s.size : Int)) : termB L V t = false := by
  simp only [termB, show ¬ (t.s.size : Int) ≤ V from by omega, decide_false, Bool.false_and]
theorem term_word {L V : Int} {t : Tm} (h : wordB L t.s.data.toList = false) : termB L V t = false := by
  simp [termB, h]
theorem term_frac {L V : Int} {t : Tm} (h : isF t.n t.d = false) : termB L V t = false := by
  simp [termB, h]
theorem term_zero {L V : Int} {t : Tm} (h : (t.n == 0) = true) : termB L V t = false := by
  simp only [termB, h, Bool.not_true, Bool.and_false]
theorem term_good {L V : Int} {t : Tm} (h1 : (t.s.size : Int) ≤ V) (h2 : wordB L t.s.data.toList = true) (h3 : isF t.n t.d = true) (h4 : (t.n == 0) = false) : termB L V t = true := by
  simp only [termB, h1, h2, h3, h4, decide_true, Bool.not_false, Bool.and_self]
theorem get_some {ts : List Tm} {k : Nat} (h : k < ts.length) {t : Tm} (e : ts[k] = t) : ts[k]? = some t := by rw [← e]; exact List.getElem?_eq_getElem h

end Go.Proofs.Ytolbgdgoambliaa

namespace Go.Proofs.Ytolbgdgoambliaa
open Go.RowKit

theorem term_w {L V : Int} {t : Tm} (h : (decide ((t.s.size : Int) ≤ V) && wordB L t.s.data.toList) = false) : termB L V t = false := by
  simp [termB, h]
theorem term_all {L V : Int} {t : Tm} (h : (decide ((t.s.size : Int) ≤ V) && wordB L t.s.data.toList) = true) (h3 : isF t.n t.d = true) (h4 : (t.n == 0) = false) : termB L V t = true := by
  simp only [termB, h, h3, h4, Bool.not_false, Bool.and_self]
theorem zero_yes {n d : Int} (h : (n == 0 && d == 1) = true) : (n == 0) = true := by
  rw [Bool.and_eq_true] at h; exact h.1
theorem zero_no {n d : Int} (hf : isF n d = true) (h : (n == 0 && d == 1) = false) : (n == 0) = false := by
  cases e : (n == 0) with
  | false => rfl
  | true =>
    have e0 : n = 0 := by simpa using e
    subst e0
    have e1 := isF_zero hf
    subst e1
    simp at h

theorem held3 {i j k o1 o2 o3 : Nat} {x y z : Value} {W w' : World} (hb : Below W.heap.size W w') (hi : i < W.heap.size) (hj : j < W.heap.size) (hk : k < W.heap.size)
    (h : W.cell? ⟨i, o1, none⟩ = some x ∧ W.cell? ⟨j, o2, none⟩ = some y ∧ W.cell? ⟨k, o3, none⟩ = some z) :
    w'.cell? ⟨i, o1, none⟩ = some x ∧ w'.cell? ⟨j, o2, none⟩ = some y ∧ w'.cell? ⟨k, o3, none⟩ = some z :=
  ⟨(hb.cell (p := ⟨i, o1, none⟩) hi).trans h.1, (hb.cell (p := ⟨j, o2, none⟩) hj).trans h.2.1, (hb.cell (p := ⟨k, o3, none⟩) hk).trans h.2.2⟩

end Go.Proofs.Ytolbgdgoambliaa
