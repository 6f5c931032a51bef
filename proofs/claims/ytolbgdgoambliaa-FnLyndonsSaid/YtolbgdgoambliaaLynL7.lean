/-
  The program's list of Lyndon words over 3 letters, up to 7 letters: its order and its words of each length, by the kernel, piece by piece (the whole at once runs out of stack).
-/
import Derived.Test.YtolbgdgoambliaaLynL
namespace Go.Proofs.Ytolbgdgoambliaa
open Go

/-- the list ascends -/
def srtL (d n : Nat) : Bool := match genL (UInt8.ofNat (47 + d)) n 2000 [48] with
  | none => false
  | some L => sortB L
/-- its words of k letters -/
def parL (d n k : Nat) : Bool := match genL (UInt8.ofNat (47 + d)) n 2000 [48] with
  | none => false
  | some L => L.filter (fun w => w.length == k) == ((wordsL d k).filter lynB).map (fun s => s.toList)
theorem srtL_true {d n : Nat} (h : srtL d n = true) : ∃ L, genL (UInt8.ofNat (47 + d)) n 2000 [48] = some L ∧ sortB L = true := by
  unfold srtL at h
  split at h
  · cases h
  · rename_i L hL
    exact ⟨L, hL, h⟩
theorem parL_true {d n k : Nat} {L : List (List UInt8)} (hL : genL (UInt8.ofNat (47 + d)) n 2000 [48] = some L) (h : parL d n k = true) : L.filter (fun w => w.length == k) = ((wordsL d k).filter lynB).map (fun s => s.toList) := by
  unfold parL at h
  rw [hL] at h
  exact of_decide_eq_true (by simpa using h)
set_option maxRecDepth 100000
theorem srtL_7 : srtL 3 7 = true := by decide +kernel
theorem parL_7_1 : parL 3 7 1 = true := by decide +kernel
theorem parL_7_2 : parL 3 7 2 = true := by decide +kernel
theorem parL_7_3 : parL 3 7 3 = true := by decide +kernel
theorem parL_7_4 : parL 3 7 4 = true := by decide +kernel
theorem parL_7_5 : parL 3 7 5 = true := by decide +kernel
theorem parL_7_6 : parL 3 7 6 = true := by decide +kernel
theorem parL_7_7 : parL 3 7 7 = true := by decide +kernel
theorem genL_is7 : ∃ L, genL (UInt8.ofNat (47 + 3)) 7 2000 [48] = some L ∧ sortB L = true ∧ ∀ k, 1 ≤ k → k ≤ 7 → L.filter (fun w => w.length == k) = ((wordsL 3 k).filter lynB).map (fun s => s.toList) := by
  obtain ⟨L, hL, hs⟩ := srtL_true srtL_7
  refine ⟨L, hL, hs, fun k h1 h2 => ?_⟩
  have h' : k = 1 ∨ k = 2 ∨ k = 3 ∨ k = 4 ∨ k = 5 ∨ k = 6 ∨ k = 7 := by omega
  rcases h' with rfl | rfl | rfl | rfl | rfl | rfl | rfl
  · exact parL_true hL parL_7_1
  · exact parL_true hL parL_7_2
  · exact parL_true hL parL_7_3
  · exact parL_true hL parL_7_4
  · exact parL_true hL parL_7_5
  · exact parL_true hL parL_7_6
  · exact parL_true hL parL_7_7
end Go.Proofs.Ytolbgdgoambliaa
