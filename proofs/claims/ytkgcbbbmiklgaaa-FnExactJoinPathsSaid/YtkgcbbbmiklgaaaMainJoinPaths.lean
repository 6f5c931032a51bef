/-
  'FnExactJoinPaths' returns true in every world: the law with the two contracts.
-/
import Derived.Test.YtkgcbbbmiklgaaaLawJoinPaths
import Derived.Test.YtkgcbbbmiklgaaaJoin
namespace Go.Proofs.Ytkgcbbbmiklgaaa
open Go.RowKit

theorem told_join (D : Nat) (qs : List (List Int)) : ∃ rs c, Told D qs rs c ∧ (rs = qs ∨ rs = []) := by
  cases h : pathB D qs with
  | true => exact ⟨qs, 0, by unfold Told; rw [h, if_pos rfl]; exact ⟨rfl, rfl⟩, .inl rfl⟩
  | false => exact ⟨[], 3, by unfold Told; rw [h]; exact ⟨rfl, rfl⟩, .inr rfl⟩

theorem main_JoinPaths (n0 : Int) (a1 : Option Addr) (cap1 : Nat) (ps1 : List (List Int)) (hl1 : ps1.length ≤ maxLen) (hs1 : ∀ i (h : i < ps1.length), (ps1[i]).length ≤ maxLen) (a2 : Option Addr) (cap2 : Nat) (ps2 : List (List Int)) (hl2 : ps2.length ≤ maxLen) (hs2 : ∀ i (h : i < ps2.length), (ps2[i]).length ≤ maxLen) (w : World) (hr1 : PRow 0 w.heap.size w a1 ps1) (hr2 : PRow 0 w.heap.size w a2 ps2) :
    Calls Try.prog 10 #[.int .i64 n0, .slice a1 ps1.length cap1, .slice a2 ps2.length cap2] w fun e w' => e = .returned (.bool true) ∧ Below w.heap.size w w' := by
  have law := law_JoinPaths n0 a1 cap1 ps1 hl1 hs1 a2 cap2 ps2 hl2 hs2 w hr1 hr2
  cases h : pathB n0 ps1 with
  | false => exact law [] 1 (by simp) (by simp [flat]) (fun W b k b2 k2 q1 q2 q3 q4 hr hr2 => sJoin_1 0 W.heap.size n0 b b2 k k2 ps1 ps2 q1 q2 W hr h) (fun W b k b2 k2 q1 q2 q3 q4 hr hr2 => iJoin_1 0 W.heap.size n0 b b2 k k2 ps1 ps2 q1 q2 W hr h)
  | true =>
    cases h2 : pathB n0 ps2 with
    | false => exact law [] 1 (by simp) (by simp [flat]) (fun W b k b2 k2 q1 q2 q3 q4 hr hr2 => sJoin_2 0 W.heap.size 0 W.heap.size n0 b b2 k k2 ps1 ps2 q1 q2 q3 q4 W hr hr2 h h2) (fun W b k b2 k2 q1 q2 q3 q4 hr hr2 => iJoin_2 0 W.heap.size 0 W.heap.size n0 b b2 k k2 ps1 ps2 q1 q2 q3 q4 W hr hr2 h h2)
    | true =>
      obtain ⟨D, rfl, hP⟩ := small_of h
      obtain ⟨D', hD', hP2⟩ := small_of h2
      have : D = D' := by omega
      subst this
      obtain ⟨rs, c, ht, hor⟩ := told_join D (ps1 ++ ps2)
      have hl12 := hP.1
      have hl12' := hP2.1
      have hf := join_flat hP hP2
      refine law rs c ?_ ?_ (fun W b k b2 k2 _ q2 _ q4 hr hr2 => sJoin_3 0 W.heap.size 0 W.heap.size D b b2 k k2 ps1 ps2 q2 q4 W hr hr2 (Nat.le_refl _) (Nat.le_refl _) h hP h2 hP2 rs c ht) (fun W b k b2 k2 _ q2 _ q4 hr hr2 => iJoin_3 0 W.heap.size 0 W.heap.size D b b2 k k2 ps1 ps2 q2 q4 W hr hr2 (Nat.le_refl _) (Nat.le_refl _) h hP h2 hP2 rs c ht)
      · rcases hor with e | e
        · rw [e, List.length_append]; omega
        · rw [e]; simp
      · rcases hor with e | e
        · rw [e]; omega
        · rw [e]; simp [flat]
end Go.Proofs.Ytkgcbbbmiklgaaa
