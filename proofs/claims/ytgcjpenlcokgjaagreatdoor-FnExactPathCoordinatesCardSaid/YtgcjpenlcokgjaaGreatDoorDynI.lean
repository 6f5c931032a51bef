/-
  Contracts of the program's DynkinMap.
-/
import Derived.Test.YtgcjpenlcokgjaaGreatDoorCrdM
import Derived.Test.YtgcjpenlcokgjaaGreatDoorBvI
import Derived.Test.YtgcjpenlcokgjaaGreatDoorNew4
import Derived.Deep.RegionHeld2
import Derived.Deep.RegionHeld3
namespace Go.Proofs.YtgcjpenlcokgjaaGreatDoor
open Go.RowKit

/-- a call that adds to values which have to fit, as one step -/
theorem add_or {f : FuncId} {args : Array Value} {w : World} {b n : Nat} {R : Ending → World → Prop} {r : Option VF} (h : Calls Tryz.prog f args w (AddPost r b n w)) (hp : r = none → ∀ w', w.grownBy w' (some b) → R (.panicked [misP 3]) w')
    (hy : ∀ (h' : VF) (w' : World), r = some h' → MapV w' b n h' → w.grownBy w' (some b) → R (.returned (.tuple #[])) w') : Calls Tryz.prog f args w R := by
  refine h.mono ?_
  cases r with
  | none => rintro e w' ⟨rfl, hg⟩; exact hp rfl w' hg
  | some h' => rintro e w' ⟨rfl, hM, hg⟩; exact hy h' w' rfl hM hg
theorem fC_yes {s : ByteArray} {n d : Int} (h : shOk ⟨s, n, d⟩ = true) : fC (n * 1) (d * (s.size : Int)) = 0 := by
  unfold shOk at h
  unfold fC
  simp only at h
  rw [h]; rfl
theorem fC_no {s : ByteArray} {n d : Int} (h : shOk ⟨s, n, d⟩ = false) : fC (n * 1) (d * (s.size : Int)) = 3 := by
  unfold shOk at h
  unfold fC
  simp only at h
  rw [h]; rfl
end Go.Proofs.YtgcjpenlcokgjaaGreatDoor
