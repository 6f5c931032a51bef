/-
  newTerms and newSeries of the program: a list, and a series, with copies of terms.
-/
import Derived.Test.YtolbgdgoambliaaShelf
import Derived.Test.YtolbgdgoambliaaRes
namespace Go.Proofs.Ytolbgdgoambliaa
open Go.RowKit

theorem clone_c (s : ByteArray) (hs : s.size ≤ 1048576) (w : World) :
    Calls Try.prog 53 #[.string s] w fun e w' => e = .returned (.string s) ∧ Below w.heap.size w w' := by
  go_enter Try.func53, Try.ntmps53
  go_wp2_with fail
  refine (Try.stringslite_Clone s _ (by omega)).mono ?_
  rintro e w1 ⟨rfl, hb⟩
  go_wp2
  go_ret
  exact ⟨rfl, hb⟩

theorem far_three {g n o i : Nat} {u v x : Value} {w' : World} (h : g ≠ n) : (((w'.setCell ⟨g, i, none⟩ u).setCell ⟨g, i + 1, none⟩ v).setCell ⟨g, i + 2, none⟩ x).cell? ⟨n, o, none⟩ = w'.cell? ⟨n, o, none⟩ := by
  rw [World.cell?_setCell_far _ _ _ _ (by show g ≠ n; exact h), World.cell?_setCell_far _ _ _ _ (by show g ≠ n; exact h), World.cell?_setCell_far _ _ _ _ (by show g ≠ n; exact h)]

/-- what a copy of a list of terms comes to -/
def RowPost (ts : List Tm) (W : World) (e : Ending) (w' : World) : Prop :=
  ∃ g, e = .returned (.slice (some ⟨g, 0, none⟩) ts.length ts.length) ∧ Below W.heap.size W w' ∧ W.heap.size ≤ g ∧ Made w' g (ts.length * 3) ∧ TermsIn w' g 0 ts

end Go.Proofs.Ytolbgdgoambliaa
