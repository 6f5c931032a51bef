/-
  'FnExactComposeMaps' returns true in every world: the law with the two contracts.
-/
import Derived.Test.YtkgcbbbmiklgaaaLawComposeMaps
import Derived.Test.YtkgcbbbmiklgaaaMapP
namespace Go.Proofs.Ytkgcbbbmiklgaaa
open Go.RowKit

theorem main_ComposeMaps (n0 n1 n2 : Int) (a3 : Option Addr) (cap3 : Nat) (ps3 : List (List Int)) (hl3 : ps3.length ≤ maxLen) (hs3 : ∀ i (h : i < ps3.length), (ps3[i]).length ≤ maxLen) (a4 : Option Addr) (cap4 : Nat) (ps4 : List (List Int)) (hl4 : ps4.length ≤ maxLen) (hs4 : ∀ i (h : i < ps4.length), (ps4[i]).length ≤ maxLen) (w : World) (hr3 : PRow 0 w.heap.size w a3 ps3) (hr4 : PRow 0 w.heap.size w a4 ps4) :
    Calls Try.prog 6 #[.int .i64 n0, .int .i64 n1, .int .i64 n2, .slice a3 ps3.length cap3, .slice a4 ps4.length cap4] w fun e w' => e = .returned (.bool true) ∧ Below w.heap.size w w' := by
  have law := law_ComposeMaps n0 n1 n2 a3 cap3 ps3 hl3 hs3 a4 cap4 ps4 hl4 hs4 w hr3 hr4
  cases h : mapB n0 n1 ps3 with
  | false => exact law [] 2 (by simp) (by simp [flat]) (fun W b k b' k' q1 q2 q3 q4 hr hr' => sCp_1 0 W.heap.size n0 n1 n2 b k ps3 b' k' ps4 q1 q2 W hr h) (fun W b k b' k' q1 q2 q3 q4 hr hr' => iCp_1 0 W.heap.size n0 n1 n2 b k ps3 b' k' ps4 q1 q2 W hr h)
  | true =>
    cases h2 : mapB n1 n2 ps4 with
    | false => exact law [] 2 (by simp) (by simp [flat]) (fun W b k b' k' q1 q2 q3 q4 hr hr' => sCp_2 0 W.heap.size 0 W.heap.size n0 n1 n2 b k ps3 b' k' ps4 q1 q2 q3 q4 W hr hr' h h2) (fun W b k b' k' q1 q2 q3 q4 hr hr' => iCp_2 0 W.heap.size 0 W.heap.size n0 n1 n2 b k ps3 b' k' ps4 q1 q2 q3 q4 W hr hr' h h2)
    | true =>
      obtain ⟨L, _, rfl, _⟩ := smallR_of h
      obtain ⟨F, _, rfl, _⟩ := smallR_of h2
      have hF := fitL_map h h2
      obtain ⟨rs, c, hres, q1, q2⟩ : ∃ (rs : List (List Int)) (c : Int), (if okL ps3 ps4 F then rs = rowsL ps3 ps4 F ∧ c = 0 else rs = [] ∧ c = 3) ∧ rs.length ≤ 1048576 ∧ flat rs ≤ 1048576 := by
        have hf := rowsL_flat hF
        have h12 := hF.1
        cases okL ps3 ps4 F with
        | true => exact ⟨rowsL ps3 ps4 F, 0, by simp, by simp [rowsL]; omega, by omega⟩
        | false => exact ⟨[], 3, by simp, by simp, by simp [flat]⟩
      exact law rs c q1 q2 (fun W b k b' k' q1 q2 q3 q4 hr hr' => sCp_3 0 W.heap.size 0 W.heap.size n0 L F b k ps3 b' k' ps4 q1 q2 q3 q4 W hr hr' (Nat.le_refl _) (Nat.le_refl _) h h2 rs c hres) (fun W b k b' k' q1 q2 q3 q4 hr hr' => iCp_3 0 W.heap.size 0 W.heap.size n0 L F b k ps3 b' k' ps4 q1 q2 q3 q4 W hr hr' (Nat.le_refl _) (Nat.le_refl _) h h2 rs c hres)
end Go.Proofs.Ytkgcbbbmiklgaaa
