/-
  Contracts of the check of one path and a level, of the program and of its model.
-/
import Derived.Test.YtddfijlgehpjfaaGreatDoorIsPath
import Derived.Test.YtddfijlgehpjfaaGreatDoorUnitS
import Derived.Laws.Rows
import Derived.LoopN
namespace Go.Proofs.YtddfijlgehpjfaaGreatDoor
open Go.RowKit

/-- the error of a path and a level -/
def codeP (L V : Int) (ps : List (List Int)) : Int := if pathB L ps = true then (if shapeB L V = true then 0 else 2) else 1
theorem codeP_1 {L V : Int} {ps : List (List Int)} (h : pathB L ps = false) : codeP L V ps = 1 := by simp [codeP, h]
theorem codeP_2 {L V : Int} {ps : List (List Int)} (h : pathB L ps = true) (h2 : shapeB L V = false) : codeP L V ps = 2 := by simp [codeP, h, h2]
theorem codeP_0 {L V : Int} {ps : List (List Int)} (h : pathB L ps = true) (h2 : shapeB L V = true) : codeP L V ps = 0 := by simp [codeP, h, h2]
end Go.Proofs.YtddfijlgehpjfaaGreatDoor
