/-
  'FnExactScalePath' returns true in every world: the law with the two contracts.
-/
import Derived.Test.YtkgcbbbmiklgaaaLawScalePath
import Derived.Test.YtkgcbbbmiklgaaaScale
namespace Go.Proofs.Ytkgcbbbmiklgaaa
open Go.RowKit

theorem told_some (D : Nat) (qs : List (List Int)) : ∃ rs c, Told D qs rs c ∧ (rs = qs ∨ rs = []) := by
  cases h : pathB D qs with
  | true => exact ⟨qs, 0, by unfold Told; rw [h, if_pos rfl]; exact ⟨rfl, rfl⟩, .inl rfl⟩
  | false => exact ⟨[], 3, by unfold Told; rw [h]; exact ⟨rfl, rfl⟩, .inr rfl⟩

theorem main_ScalePath (n0 n2 : Int) (a1 : Option Addr) (cap1 : Nat) (ps1 : List (List Int)) (hl1 : ps1.length ≤ maxLen) (hs1 : ∀ i (h : i < ps1.length), (ps1[i]).length ≤ maxLen) (w : World) (hr1 : PRow 0 w.heap.size w a1 ps1) :
    Calls Try.prog 9 #[.int .i64 n0, .slice a1 ps1.length cap1, .int .i64 n2] w fun e w' => e = .returned (.bool true) ∧ Below w.heap.size w w' := by
  have law := law_ScalePath n0 n2 a1 cap1 ps1 hl1 hs1 w hr1
  cases h : pathB n0 ps1 with
  | false => exact law [] 1 (by simp) (by simp [flat]) (fun W b k q1 q2 hr => sScale_1 0 W.heap.size n0 b k ps1 n2 q1 q2 W hr h) (fun W b k q1 q2 hr => iScale_1 0 W.heap.size n0 b k ps1 n2 q1 q2 W hr h)
  | true =>
    obtain ⟨D, rfl, hP⟩ := small_of h
    cases h2 : inB n2 (-100) 100 with
    | false => exact law [] 2 (by simp) (by simp [flat]) (fun W b k q1 q2 hr => sScale_2 0 W.heap.size D b k ps1 n2 q1 q2 W hr h h2) (fun W b k q1 q2 hr => iScale_2 0 W.heap.size D b k ps1 n2 q1 q2 W hr h h2)
    | true =>
      obtain ⟨rs, c, ht, hor⟩ := told_some D (scaled n2 ps1)
      have hl12 := hP.1
      have hf := scaled_flat hP n2
      refine law rs c ?_ ?_ (fun W b k _ q2 hr => sScale_3 0 W.heap.size D b k ps1 n2 q2 W hr (Nat.le_refl _) h hP h2 rs c ht) (fun W b k _ q2 hr => iScale_3 0 W.heap.size D b k ps1 n2 q2 W hr (Nat.le_refl _) h hP h2 rs c ht)
      · rcases hor with e | e
        · rw [e, scaled_length]; omega
        · rw [e]; simp
      · rcases hor with e | e
        · rw [e]; omega
        · rw [e]; simp [flat]
end Go.Proofs.Ytkgcbbbmiklgaaa
