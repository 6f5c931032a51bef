/-
  A row of terms that an argument brings, and cells behind calls.
-/
import Derived.Test.YtblhmdeoliipfaaImpIs
import Derived.Test.YtblhmdeoliipfaaShut
namespace Go.Proofs.Ytblhmdeoliipfaa
open Go.RowKit

/-- an argument's terms: none, or a row in memory -/
def Row (w : World) (a : Option Addr) (ts : List Tm) : Prop := ts = [] ∨ ∃ b off, a = some ⟨b, off, none⟩ ∧ b < w.heap.size ∧ TermsIn w b off ts
theorem Row.below {w w' : World} {a : Option Addr} {ts : List Tm} (h : Row w a ts) (hb : Below w.heap.size w w') : Row w' a ts := by
  rcases h with h | ⟨b, off, h1, h2, h3⟩
  · exact .inl h
  · exact .inr ⟨b, off, h1, Nat.lt_of_lt_of_le h2 hb.size, h3.below hb h2⟩

theorem held33 {i j : Nat} {a b c x y z : Value} {W w' : World} (hb : Below W.heap.size W w') (hi : i < W.heap.size) (hj : j < W.heap.size)
    (h : W.cell? ⟨i, 0, none⟩ = some a ∧ W.cell? ⟨i, 1, none⟩ = some b ∧ W.cell? ⟨i, 2, none⟩ = some c ∧ W.cell? ⟨j, 0, none⟩ = some x ∧ W.cell? ⟨j, 1, none⟩ = some y ∧ W.cell? ⟨j, 2, none⟩ = some z) :
    w'.cell? ⟨i, 0, none⟩ = some a ∧ w'.cell? ⟨i, 1, none⟩ = some b ∧ w'.cell? ⟨i, 2, none⟩ = some c ∧ w'.cell? ⟨j, 0, none⟩ = some x ∧ w'.cell? ⟨j, 1, none⟩ = some y ∧ w'.cell? ⟨j, 2, none⟩ = some z :=
  ⟨(hb.cell (p := ⟨i, 0, none⟩) hi).trans h.1, (hb.cell (p := ⟨i, 1, none⟩) hi).trans h.2.1, (hb.cell (p := ⟨i, 2, none⟩) hi).trans h.2.2.1,
    (hb.cell (p := ⟨j, 0, none⟩) hj).trans h.2.2.2.1, (hb.cell (p := ⟨j, 1, none⟩) hj).trans h.2.2.2.2.1, (hb.cell (p := ⟨j, 2, none⟩) hj).trans h.2.2.2.2.2⟩
end Go.Proofs.Ytblhmdeoliipfaa
