/-
  Contracts of IsSeries, of the program and of its model: both return the same bool.
-/
import Derived.Test.YtblhmdeoliipfaaShape
namespace Go.Proofs.Ytblhmdeoliipfaa
open Go.RowKit

theorem term_size {L V : Int} {t : Tm} (h : V < (t.s.size : Int)) : termB L V t = false := by
  simp only [termB, show ¬ (t.s.size : Int) ≤ V from by omega, decide_false, Bool.false_and]
theorem term_word {L V : Int} {t : Tm} (h : wordB L t.s.data.toList = false) : termB L V t = false := by
  simp [termB, h]
theorem term_frac {L V : Int} {t : Tm} (h : isF t.n t.d = false) : termB L V t = false := by
  simp [termB, h]
theorem term_zero {L V : Int} {t : Tm} (h : (t.n == 0) = true) : termB L V t = false := by
  simp only [termB, h, Bool.not_true, Bool.and_false]
theorem term_good {L V : Int} {t : Tm} (h1 : (t.s.size : Int) ≤ V) (h2 : wordB L t.s.data.toList = true) (h3 : isF t.n t.d = true) (h4 : (t.n == 0) = false) : termB L V t = true := by
  simp only [termB, h1, h2, h3, h4, decide_true, Bool.not_false, Bool.and_self]
theorem get_some {ts : List Tm} {k : Nat} (h : k < ts.length) {t : Tm} (e : ts[k] = t) : ts[k]? = some t := by rw [← e]; exact List.getElem?_eq_getElem h

end Go.Proofs.Ytblhmdeoliipfaa
