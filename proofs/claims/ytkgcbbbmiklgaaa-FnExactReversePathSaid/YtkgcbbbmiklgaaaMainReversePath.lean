/-
  'FnExactReversePath' returns true in every world: the law with the two contracts.
-/
import Derived.Test.YtkgcbbbmiklgaaaLawReversePath
import Derived.Test.YtkgcbbbmiklgaaaRevP
namespace Go.Proofs.Ytkgcbbbmiklgaaa
open Go.RowKit

theorem main_ReversePath (n0 : Int) (a1 : Option Addr) (cap1 : Nat) (ps1 : List (List Int)) (hl1 : ps1.length ≤ maxLen) (hs1 : ∀ i (h : i < ps1.length), (ps1[i]).length ≤ maxLen) (w : World) (hr1 : PRow 0 w.heap.size w a1 ps1) :
    Calls Try.prog 11 #[.int .i64 n0, .slice a1 ps1.length cap1] w fun e w' => e = .returned (.bool true) ∧ Below w.heap.size w w' := by
  have law := law_ReversePath n0 a1 cap1 ps1 hl1 hs1 w hr1
  cases h : pathB n0 ps1 with
  | false => exact law [] 1 (by simp) (by simp [flat]) (fun W b k q1 q2 hr => sRevP_1 0 W.heap.size n0 b k ps1 q1 q2 W hr h) (fun W b k q1 q2 hr => iRevP_1 0 W.heap.size n0 b k ps1 q1 q2 W hr h)
  | true =>
    obtain ⟨D, rfl, hP⟩ := small_of h
    have hl12 := hP.1
    have hf := scaled_flat hP (-1)
    exact law (negrev ps1) 0 (by rw [negrev_length]; omega) (by rw [negrev, flat_reverse]; omega) (fun W b k _ q2 hr => sRevP_2 0 W.heap.size D b k ps1 q2 W hr (Nat.le_refl _) h hP) (fun W b k _ q2 hr => iRevP_2 0 W.heap.size D b k ps1 q2 W hr (Nat.le_refl _) h hP)
end Go.Proofs.Ytkgcbbbmiklgaaa
