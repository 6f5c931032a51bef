/-
  Contracts of UnitSeries, of the program and of its model: both return the same series and code.
  The model's UnitSeries.
-/
import Derived.Test.YtolbgdgoambliaaPrM
import Derived.Test.YtolbgdgoambliaaLv2
import Derived.Deep.RegionLaw
namespace Go.Proofs.Ytolbgdgoambliaa
open Go.RowKit

/-- the values of the unit -/
def unitF : ByteArray → Option (Int × Int) := setF (fun _ => none) ByteArray.empty (some (1, 1))
def UnitVPost (W : World) (e : Ending) (w' : World) : Prop := ∃ b, e = .returned (.map (some b)) ∧ W.heap.size ≤ b ∧ Below W.heap.size W w' ∧ MapV w' b 1 unitF
theorem allW_head (D : Nat) : ∀ n, ∃ r, allW D n = ByteArray.empty :: r ∧ ∀ s ∈ r, s ≠ ByteArray.empty
  | 0 => ⟨[], rfl, fun s h => by cases h⟩
  | n + 1 => by
    obtain ⟨r, e, h⟩ := allW_head D n
    refine ⟨r ++ wordsL D (n + 1), by rw [allW, e]; rfl, fun s hs => ?_⟩
    rcases List.mem_append.1 hs with hs | hs
    · exact h s hs
    · intro e0
      have := wordsL_size D (n + 1) s hs
      rw [e0] at this
      simp at this
theorem unit_terms (D n : Nat) : termsOf unitF (allW D n) = [⟨ByteArray.empty, 1, 1⟩] := by
  obtain ⟨r, e, h⟩ := allW_head D n
  rw [e]
  unfold termsOf
  rw [List.filterMap_cons]
  have h0 : unitF ByteArray.empty = some (1, 1) := by simp [unitF, setF]
  have h1 : r.filterMap (fun s => (unitF s).map fun p => (⟨s, p.1, p.2⟩ : Tm)) = [] := by
    rw [List.filterMap_eq_nil_iff]
    intro s hs
    have hne := h s hs
    simp [unitF, setF, hne]
  rw [h0, h1]
  rfl
end Go.Proofs.Ytolbgdgoambliaa

namespace Go.Proofs.Ytolbgdgoambliaa
open Go.RowKit

/-- where the unit's variable stands behind its append -/
def UCut (B : Nat) (W0 : World) (n : Nat) (L V : Int) (wy : World) : Prop :=
  ∃ gq G : Nat, n < wy.heap.size ∧ Below B W0 wy ∧ wy.cell? ⟨n, 0, none⟩ = some (.int .i64 L) ∧ wy.cell? ⟨n, 1, none⟩ = some (.int .i64 V) ∧ wy.cell? ⟨n, 2, none⟩ = some (.slice (some ⟨gq, 0, none⟩) 1 G) ∧
    NewRow B wy.heap.size wy (some ⟨gq, 0, none⟩) [⟨ByteArray.empty, 1, 1⟩]

end Go.Proofs.Ytolbgdgoambliaa
