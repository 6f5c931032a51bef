/-
  Contract of IsSeries of the program.
-/
import Derived.Test.YtkgcbbbmiklgaaaIs
namespace Go.Proofs.Ytkgcbbbmiklgaaa
open Go.RowKit

theorem term_w {L V : Int} {t : Tm} (h : (decide ((t.s.size : Int) ≤ V) && wordB L t.s.data.toList) = false) : termB L V t = false := by
  simp [termB, h]
theorem term_all {L V : Int} {t : Tm} (h : (decide ((t.s.size : Int) ≤ V) && wordB L t.s.data.toList) = true) (h3 : isF t.n t.d = true) (h4 : (t.n == 0) = false) : termB L V t = true := by
  simp only [termB, h, h3, h4, Bool.not_false, Bool.and_self]
theorem zero_yes {n d : Int} (h : (n == 0 && d == 1) = true) : (n == 0) = true := by
  rw [Bool.and_eq_true] at h; exact h.1
theorem zero_no {n d : Int} (hf : isF n d = true) (h : (n == 0 && d == 1) = false) : (n == 0) = false := by
  cases e : (n == 0) with
  | false => rfl
  | true =>
    have e0 : n = 0 := by simpa using e
    subst e0
    have e1 := isF_zero hf
    subst e1
    simp at h

theorem held3 {i j k o1 o2 o3 : Nat} {x y z : Value} {W w' : World} (hb : Below W.heap.size W w') (hi : i < W.heap.size) (hj : j < W.heap.size) (hk : k < W.heap.size)
    (h : W.cell? ⟨i, o1, none⟩ = some x ∧ W.cell? ⟨j, o2, none⟩ = some y ∧ W.cell? ⟨k, o3, none⟩ = some z) :
    w'.cell? ⟨i, o1, none⟩ = some x ∧ w'.cell? ⟨j, o2, none⟩ = some y ∧ w'.cell? ⟨k, o3, none⟩ = some z :=
  ⟨(hb.cell (p := ⟨i, o1, none⟩) hi).trans h.1, (hb.cell (p := ⟨j, o2, none⟩) hj).trans h.2.1, (hb.cell (p := ⟨k, o3, none⟩) hk).trans h.2.2⟩

end Go.Proofs.Ytkgcbbbmiklgaaa
