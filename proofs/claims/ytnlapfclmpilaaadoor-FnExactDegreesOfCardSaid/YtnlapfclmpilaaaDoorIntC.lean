/-
  slices.Clone of a row of numbers, slices.Concat at two rows of numbers.
-/
import Derived.Test.YtnlapfclmpilaaaDoorIntA
import Derived.Lib.LazyBuf
namespace Go.Proofs.YtnlapfclmpilaaaDoor
open Go.RowKit

/-- what a function that returns new numbers comes to -/
def IntsPost (zs : List Int) (W : World) (e : Ending) (w' : World) : Prop :=
  ∃ (a : Option Addr) (cap : Nat), e = .returned (.slice a zs.length cap) ∧ Below W.heap.size W w' ∧ NewI W.heap.size w'.heap.size w' a zs
theorem OwnI.at_ {w : World} {base : Nat} {a : Option Addr} {l c : Nat} {ss : List Int} (h : OwnI w base (.slice a l c) ss) : l = ss.length ∧ NewI base w.heap.size w a ss := by
  obtain ⟨a', c', he, hle, hN⟩ := h.newI
  injection he with e1 e2 e3
  subst e1 e3
  exact ⟨e2, hN⟩
theorem IRow.src {lo hi : Nat} {w : World} {a : Option Addr} {zs : List Int} (h : IRow lo hi w a zs) : zs.length = 0 ∨ ∃ b off, a = some ⟨b, off, none⟩ ∧ IntsIn w b off zs := by
  rcases h with h | ⟨b, off, e, _, _, q⟩
  · exact .inl (by simp [h])
  · exact .inr ⟨b, off, e, q⟩

def GrowIPost (W : World) (e : Ending) (w' : World) : Prop :=
  ∃ (a : Option Addr) (c : Nat), e = .returned (.slice a 0 c) ∧ OwnI w' W.heap.size (.slice a 0 c) [] ∧ Below W.heap.size W w'
end Go.Proofs.YtnlapfclmpilaaaDoor
