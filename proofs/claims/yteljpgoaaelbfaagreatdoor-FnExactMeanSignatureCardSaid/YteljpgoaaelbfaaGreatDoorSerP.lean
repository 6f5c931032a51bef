/-
  What stands behind the marking of a path: rows of terms and known cells outside of its bounds.
-/
import Derived.Test.YteljpgoaaelbfaaGreatDoorRes
import Derived.Test.YteljpgoaaelbfaaGreatDoorPaths
import Derived.Test.YteljpgoaaelbfaaGreatDoorEndOf
namespace Go.Proofs.YteljpgoaaelbfaaGreatDoor
open Go.RowKit

theorem Cs.outside {lo hi : Nat} {w w' : World} {l : List (Nat × Nat × Value)} (h : Cs w l) (hg : Outside lo hi w w') (hr : ∀ p ∈ l, p.1 < lo ∨ hi ≤ p.1) : Cs w' l := fun p hp =>
  ⟨Nat.lt_of_lt_of_le (h p hp).1 hg.size, (hg.cell (h p hp).1 (hr p hp)).trans (h p hp).2⟩
theorem TermsIn.outside {lo hi : Nat} {w w' : World} {b off : Nat} {ts : List Tm} (h : TermsIn w b off ts) (hg : Outside lo hi w w') (hlt : b < w.heap.size) (ho : b < lo ∨ hi ≤ b) : TermsIn w' b off ts := fun i hi' =>
  ⟨(hg.cell hlt ho).trans (h i hi').1, (hg.cell hlt ho).trans (h i hi').2.1, (hg.cell hlt ho).trans (h i hi').2.2⟩
theorem RowB.outside {hi l h' : Nat} {w w' : World} {a : Option Addr} {ts : List Tm} (h : RowB hi w a ts) (hg : Outside l h' w w') (hh : hi ≤ w.heap.size) (ho : hi ≤ l) : RowB hi w' a ts := by
  rcases h with h | ⟨b, off, h1, h2, h3⟩
  · exact .inl h
  · exact .inr ⟨b, off, h1, h2, h3.outside hg (by omega) (.inl (by omega))⟩
theorem NewRow.outside {lo hi l h' : Nat} {w w' : World} {a : Option Addr} {ts : List Tm} (h : NewRow lo hi w a ts) (hg : Outside l h' w w') (ho : hi ≤ l ∨ h' ≤ lo) : NewRow lo hi w' a ts := by
  rcases h with h | ⟨g, h1, h2, h3, h4, h5⟩
  · exact .inl h
  · exact .inr ⟨g, h1, h2, h3, hg.made h4 (by omega), h5.outside hg h4.1 (by omega)⟩
end Go.Proofs.YteljpgoaaelbfaaGreatDoor
