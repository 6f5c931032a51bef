/-
  newSeries of the program: a series with copies of terms.
-/
import Derived.Test.YtldjepplklbnoaaShelf
import Derived.Test.YtldjepplklbnoaaRow
namespace Go.Proofs.Ytldjepplklbnoaa
open Go.RowKit

theorem far_three {g n o i : Nat} {u v x : Value} {w' : World} (h : g ≠ n) : (((w'.setCell ⟨g, i, none⟩ u).setCell ⟨g, i + 1, none⟩ v).setCell ⟨g, i + 2, none⟩ x).cell? ⟨n, o, none⟩ = w'.cell? ⟨n, o, none⟩ := by
  rw [World.cell?_setCell_far _ _ _ _ (by show g ≠ n; exact h), World.cell?_setCell_far _ _ _ _ (by show g ≠ n; exact h), World.cell?_setCell_far _ _ _ _ (by show g ≠ n; exact h)]

end Go.Proofs.Ytldjepplklbnoaa
