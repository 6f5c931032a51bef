/-
  'FnExactLyndonWords' returns true at every input: the program's LyndonWords and its model's return the same words and code, in memory of its own. No condition.
-/
import Derived.Test.YtolbgdgoambliaaLwJ
import Derived.Test.YtolbgdgoambliaaLwM
import Derived.Test.YtolbgdgoambliaaLawLyndonWords
import Derived.Test.YtolbgdgoambliaaOpenR
namespace Go.Proofs.Ytolbgdgoambliaa
open Go.ChangeShapes Go.WideShapes Go.ChangeAt Go.RowKit
open Go.ChangeMaps (open_string shut_string)

theorem baL_toList (s : ByteArray) : baL s.toList = s := by
  unfold baL
  rw [ByteArray.toList_eq]
/-- the words of n letters of the program's list are the model's -/
theorem kept_are {d n : Nat} {L : List (List UInt8)} (hl : ∀ v ∈ L, v.length ≤ n) (hk : L.filter (fun w => w.length == n) = ((wordsL d n).filter lynB).map (fun s => s.toList)) :
    ((L.map baL).filter fun s => !decide ((s.size : Int) < (n : Int))) = (wordsL d n).filter lynB := by
  rw [List.filter_map]
  have e : L.filter ((fun s : ByteArray => !decide ((s.size : Int) < (n : Int))) ∘ baL) = L.filter (fun w => w.length == n) := by
    refine List.filter_congr fun w hw => ?_
    have h := hl w hw
    have hs : (baL w).size = w.length := by simp [baL, ByteArray.size]
    simp only [Function.comp, hs]
    by_cases hx : w.length = n
    · simp [hx]
    · have : w.length < n := by omega
      simp [hx, this]
  rw [e, hk, List.map_map]
  have e2 : (baL ∘ fun s : ByteArray => s.toList) = id := funext fun s => baL_toList s
  rw [e2, List.map_id]
theorem ap_38 : ap ((3 : Nat) : Int) 20 8 / ((8 : Nat) : Int) > 400 := by decide +kernel
namespace fnExactLyndonWords
end fnExactLyndonWords
end Go.Proofs.Ytolbgdgoambliaa
