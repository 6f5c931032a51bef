/-
  Series in memory: the laws' own helpers that measure, copy and compare them.
-/
import Derived.Test.YtkgcbbbmiklgaaaTerms
namespace Go.Proofs.Ytkgcbbbmiklgaaa
open Go.RowKit

/-- what copying a series comes to -/
def ToSer (L V : Int) (ts : List Tm) (W : World) (e : Ending) (w' : World) : Prop :=
  ∃ g, e = .returned (.agg #[.int .i64 L, .int .i64 V, .slice (some ⟨g, 0, none⟩) ts.length ts.length]) ∧ Below W.heap.size W w' ∧ W.heap.size ≤ g ∧ Made w' g (ts.length * 3) ∧ TermsIn w' g 0 ts

theorem TermsIn.setCell {w : World} {g : Nat} {ts : List Tm} (h : TermsIn w g 0 ts) {p : Addr} (hp : p.block ≠ g) (u : Value) : TermsIn (w.setCell p u) g 0 ts := fun i hi =>
  ⟨(World.cell?_setCell_far _ _ _ _ hp).trans (h i hi).1, (World.cell?_setCell_far _ _ _ _ hp).trans (h i hi).2.1, (World.cell?_setCell_far _ _ _ _ hp).trans (h i hi).2.2⟩

end Go.Proofs.Ytkgcbbbmiklgaaa
