/-
  'FnExactMapPath' returns true in every world: the law with the two contracts.
-/
import Derived.Test.YtkgcbbbmiklgaaaLawMapPath
import Derived.Test.YtkgcbbbmiklgaaaMapP
namespace Go.Proofs.Ytkgcbbbmiklgaaa
open Go.RowKit

theorem main_MapPath (n0 n2 : Int) (a1 : Option Addr) (cap1 : Nat) (ps1 : List (List Int)) (hl1 : ps1.length ≤ maxLen) (hs1 : ∀ i (h : i < ps1.length), (ps1[i]).length ≤ maxLen) (a3 : Option Addr) (cap3 : Nat) (ps3 : List (List Int)) (hl3 : ps3.length ≤ maxLen) (hs3 : ∀ i (h : i < ps3.length), (ps3[i]).length ≤ maxLen) (w : World) (hr1 : PRow 0 w.heap.size w a1 ps1) (hr3 : PRow 0 w.heap.size w a3 ps3) :
    Calls Try.prog 5 #[.int .i64 n0, .slice a1 ps1.length cap1, .int .i64 n2, .slice a3 ps3.length cap3] w fun e w' => e = .returned (.bool true) ∧ Below w.heap.size w w' := by
  have law := law_MapPath n0 n2 a1 cap1 ps1 hl1 hs1 a3 cap3 ps3 hl3 hs3 w hr1 hr3
  cases h : pathB n0 ps1 with
  | false => exact law [] 1 (by simp) (by simp [flat]) (fun W b k b' k' q1 q2 q3 q4 hr hr' => sMp_1 0 W.heap.size n0 n2 b k ps1 b' k' ps3 q1 q2 W hr h) (fun W b k b' k' q1 q2 q3 q4 hr hr' => iMp_1 0 W.heap.size n0 n2 b k ps1 b' k' ps3 q1 q2 W hr h)
  | true =>
    cases h2 : mapB n0 n2 ps3 with
    | false => exact law [] 2 (by simp) (by simp [flat]) (fun W b k b' k' q1 q2 q3 q4 hr hr' => sMp_2 0 W.heap.size 0 W.heap.size n0 n2 b k ps1 b' k' ps3 q1 q2 q3 q4 W hr hr' h h2) (fun W b k b' k' q1 q2 q3 q4 hr hr' => iMp_2 0 W.heap.size 0 W.heap.size n0 n2 b k ps1 b' k' ps3 q1 q2 q3 q4 W hr hr' h h2)
    | true =>
      obtain ⟨E, _, rfl, _⟩ := smallR_of h2
      have hF := fitL_path h h2
      obtain ⟨rs, c, hres, q1, q2⟩ : ∃ (rs : List (List Int)) (c : Int), (if okL ps1 ps3 E then rs = rowsL ps1 ps3 E ∧ c = 0 else rs = [] ∧ c = 3) ∧ rs.length ≤ 1048576 ∧ flat rs ≤ 1048576 := by
        have hf := rowsL_flat hF
        have h12 := hF.1
        cases okL ps1 ps3 E with
        | true => exact ⟨rowsL ps1 ps3 E, 0, by simp, by simp [rowsL]; omega, by omega⟩
        | false => exact ⟨[], 3, by simp, by simp, by simp [flat]⟩
      exact law rs c q1 q2 (fun W b k b' k' q1 q2 q3 q4 hr hr' => sMp_3 0 W.heap.size 0 W.heap.size n0 E b k ps1 b' k' ps3 q1 q2 q3 q4 W hr hr' (Nat.le_refl _) (Nat.le_refl _) h h2 rs c hres) (fun W b k b' k' q1 q2 q3 q4 hr hr' => iMp_3 0 W.heap.size 0 W.heap.size n0 E b k ps1 b' k' ps3 q1 q2 q3 q4 W hr hr' (Nat.le_refl _) (Nat.le_refl _) h h2 rs c hres)
end Go.Proofs.Ytkgcbbbmiklgaaa
