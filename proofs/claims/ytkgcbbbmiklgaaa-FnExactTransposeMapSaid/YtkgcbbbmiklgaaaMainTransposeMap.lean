/-
  'FnExactTransposeMap' returns true in every world: the law with the two contracts.
-/
import Derived.Test.YtkgcbbbmiklgaaaLawTransposeMap
import Derived.Test.YtkgcbbbmiklgaaaTrans
namespace Go.Proofs.Ytkgcbbbmiklgaaa
open Go.RowKit

theorem main_TransposeMap (n0 n1 : Int) (a2 : Option Addr) (cap2 : Nat) (ps2 : List (List Int)) (hl2 : ps2.length ≤ maxLen) (hs2 : ∀ i (h : i < ps2.length), (ps2[i]).length ≤ maxLen) (w : World) (hr2 : PRow 0 w.heap.size w a2 ps2) :
    Calls Try.prog 4 #[.int .i64 n0, .int .i64 n1, .slice a2 ps2.length cap2] w fun e w' => e = .returned (.bool true) ∧ Below w.heap.size w w' := by
  have law := law_TransposeMap n0 n1 a2 cap2 ps2 hl2 hs2 w hr2
  cases h : mapB n0 n1 ps2 with
  | false => exact law [] 2 (by simp) (by simp [flat]) (fun W b k q1 q2 hr => sTr_1 0 W.heap.size n0 n1 b k ps2 q1 q2 W hr h) (fun W b k q1 q2 hr => iTr_1 0 W.heap.size n0 n1 b k ps2 q1 q2 W hr h)
  | true =>
    obtain ⟨E, rfl, rfl, hP⟩ := smallR_of h
    have h1 := hP.2.1
    have h2 := hP.2.2.2.1
    have hf := trans_flat ps2 ps2.length E h1 h2
    exact law (transL ps2 ps2.length E) 0 (by rw [transL_length]; omega) (by omega) (fun W b k _ _ hr => sTr_2 0 W.heap.size E b k ps2 W hr (Nat.le_refl _) h hP) (fun W b k _ _ hr => iTr_2 0 W.heap.size E b k ps2 W hr (Nat.le_refl _) h hP)
end Go.Proofs.Ytkgcbbbmiklgaaa
