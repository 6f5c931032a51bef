/-
  Contracts of PowerSeries, of the program and of its model: both return the same series and code.
-/
import Derived.Test.YtddfijlgehpjfaaGreatDoorTimes
import Derived.Test.YtddfijlgehpjfaaGreatDoorGate
import Derived.Deep.RegionHeld2
namespace Go.Proofs.YtddfijlgehpjfaaGreatDoor
open Go.RowKit

/-- the powers of a series' values: each is the one before, times the series -/
def powV (base : VF) (ws : List ByteArray) : Nat → Option VF
  | 0 => some unitF
  | k + 1 => (powV base ws k).bind fun p => prodV p base ws
theorem powV_next {base p : VF} {ws : List ByteArray} {k : Nat} (h : powV base ws k = some p) : powV base ws (k + 1) = prodV p base ws := by rw [powV, h]; rfl
theorem powV_dead {base : VF} {ws : List ByteArray} {k : Nat} (h : powV base ws k = none) : ∀ {m : Nat}, k ≤ m → powV base ws m = none
  | 0, hm => by obtain rfl : k = 0 := by omega
                exact h
  | m + 1, hm => by
    by_cases e : k = m + 1
    · subst e; exact h
    · rw [powV, powV_dead h (show k ≤ m by omega)]; rfl
theorem good_unit (D N : Nat) : GoodV (allW D N) unitF := fun s p h => by
  unfold unitF setF at h
  split at h
  · rename_i hs
    injection h with h
    subst h
    obtain ⟨r, e, _⟩ := allW_head D N
    exact ⟨by rw [e, hs]; simp, by decide, by decide⟩
  · cases h
theorem powV_good {D N : Nat} {base : VF} : ∀ {k : Nat} {p : VF}, powV base (allW D N) k = some p → GoodV (allW D N) p
  | 0, p, h => by rw [powV] at h; injection h with h; rw [← h]; exact good_unit D N
  | k + 1, p, h => by
    rw [powV] at h
    obtain ⟨q, _, h2⟩ := Option.bind_eq_some_iff.1 h
    exact GoodV.prodV h2
/-- what a function comes to that returns a series of values, if all fits -/
def FitV (D N : Nat) (r : Option VF) (W : World) (e : Ending) (w' : World) : Prop := match r with | none => SerPost 0 0 [] 3 W e w' | some h => SerPost D N (termsOf h (allW D N)) 0 W e w'

end Go.Proofs.YtddfijlgehpjfaaGreatDoor
